package loadfile_test

import (
	"math/rand/v2"
	"reflect"
	"slices"
	"testing"

	"smartcard/api"
	"smartcard/code"
	"smartcard/loadfile"
	"smartcard/mode"
)

func expectEncode(t *testing.T, p api.Package, want []byte) {
	t.Helper()
	if b, e := loadfile.Encode(p); e != api.OK || !slices.Equal(b, want) {
		t.Fatalf("Encode of %v returns %x and %d, not %x", p, b, e, want)
	}
}

func expectDecode(t *testing.T, b []byte, want api.Package) {
	t.Helper()
	if p, e := loadfile.Decode(b); e != api.OK || !equal(p, want) {
		t.Fatalf("Decode of %x returns %v and %d, not %v", b, p, e, want)
	}
}

func expectDecodeError(t *testing.T, b []byte, want api.Errno) {
	t.Helper()
	if p, e := loadfile.Decode(b); e != want || !reflect.ValueOf(p).IsZero() && !equal(p, api.Package{}) {
		t.Fatalf("Decode of %x returns %v and %d, not %d", b, p, e, want)
	}
}

// expectAsModel compares Decode with the model of the tests, and reports whether the bytes are those of a package.
func expectAsModel(t *testing.T, b []byte) bool {
	t.Helper()
	want, e := decoded(b)
	if e != api.OK {
		expectDecodeError(t, b, e)
		return false
	}
	expectDecode(t, b, want)
	expectEncode(t, want, b) // P28.4
	return true
}

// P28.2

func emptyBytes() []byte {
	return []byte{0x53, 0x43, 0x31, 5, 1, 2, 3, 4, 5, 1, 0, 0, 0, 0, 0, 0}
}

func TestEncode(t *testing.T) {
	expectEncode(t, empty(), emptyBytes())
	expectEncode(t, sample(), sampleBytes())
}

func TestEncodeErrors(t *testing.T) {
	for _, c := range allChanges() {
		p := sample()
		c.do(&p)
		if b, e := loadfile.Encode(p); e != c.e || e != api.OK && len(b) > 0 {
			t.Errorf("%s: Encode returns %x and %d, not %d", c.what, b, e, c.e)
		}
	}
}

func TestDecode(t *testing.T) {
	expectDecode(t, emptyBytes(), empty())
	expectDecode(t, sampleBytes(), sample())
}

func TestDecodeOfTooFewBytes(t *testing.T) {
	for _, b := range [][]byte{emptyBytes(), sampleBytes()} {
		for n := range b {
			expectDecodeError(t, b[:n], api.ErrShort)
		}
		expectDecodeError(t, append(b, 0), api.ErrForm)
		expectDecodeError(t, append(b, b...), api.ErrForm)
		expectDecodeError(t, append(b, make([]byte, 2048-len(b))...), api.ErrForm)
		expectDecodeError(t, append(b, make([]byte, 2049-len(b))...), api.ErrLong)
	}
}

func TestDecodeErrors(t *testing.T) {
	head := emptyBytes()[:11] // until before the imports
	with := func(rest ...byte) []byte { return append(slices.Clone(head), rest...) }
	class := func(rest ...byte) []byte { return append(with(0, 1), rest...) }
	method := func(rest ...byte) []byte { return append(with(0, 0, 1), rest...) }
	for n, x := range []struct {
		b []byte
		e api.Errno
	}{
		{nil, api.ErrShort},
		{[]byte{0x53, 0x43, 0x31}, api.ErrShort},
		{[]byte{0x53, 0x43, 0x32}, api.ErrForm},
		{[]byte{0x53, 0x43}, api.ErrShort},
		{[]byte{0x52}, api.ErrForm},
		{[]byte{0x53, 0x42}, api.ErrForm},
		{make([]byte, 2048), api.ErrForm},
		{make([]byte, 2049), api.ErrLong},
		{append([]byte("SC1"), make([]byte, 2046)...), api.ErrLong},
		{[]byte{0x53, 0x43, 0x31, 200, 1, 2, 3}, api.ErrShort}, // before the length of the identifier
		{[]byte{0x53, 0x43, 0x31, 4, 1, 2, 3, 4, 1, 0, 0, 0, 0, 0, 0}, api.ErrArg},
		{with(0, 0, 0, 0, 0, 9), api.ErrForm},
		{append([]byte{0x53, 0x43, 0x31, 4, 1, 2, 3, 4, 1, 0, 0, 0, 0, 0, 0}, 0), api.ErrForm}, // before the error of Check
		{class(2), api.ErrForm},
		{class(0xff, 0xff, 0, 0, 0, 0, 0, 0, 0, 0), api.ErrForm},
		{class(0), api.ErrShort},
		{class(0, 9, 9, 1, 0, 0, 1, 6), api.ErrForm},                                 // a field of the kind 6, before what Check says
		{class(0, 9, 9, 1, 0, 0, 1, 5), api.ErrShort},                                // a field with an incomplete reference
		{class(0, 9, 9, 1, 0, 0, 1, 0, 0, 0, 0, 0, 0), api.ErrRange},                 // read completely: the error of Check
		{class(0, 255, 0, 0, 1, 0, 0, 0, 0, 0, 0), api.ErrType},                      // a field of the kind TypeVoid can be read
		{class(0, 255, 0, 0, 0, 1, 0xfe, 0, 0, 0, 0), api.ErrRange},                  // only FF stands for -1
		{class(0, 255, 0, 0, 0, 1, 0xff, 1, 255, 1, 1, 0xff, 0, 0, 0), api.ErrRange}, // and not as one of Methods
		{method(4), api.ErrForm},                                                     // its first byte
		{method(0xff, 0, 0, 0, 0, 0, 0, 0, 0, 0, 0), api.ErrForm},
		{method(3, 0, 0, 0, 0, 0, 0, 0, 0, 0, 0), api.ErrForm}, // static and abstract, as Check says
		{method(1, 0, 1, 6), api.ErrForm},                      // the kind of a parameter
		{method(1, 0, 0, 6), api.ErrForm},                      // the kind of the result
		{method(1, 0, 0, 255, 0, 0, 0, 1, 0x31, 0, 0, 0), api.ErrForm},
		{method(1, 0, 0, 0, 0, 0, 0, 1, 0x31, 0, 0, 0), api.OK},
		{method(1, 0, 0, 0, 0, 0, 0, 0, 0, 0, 0), api.ErrForm},     // without code, as Check says
		{method(1, 0, 0, 0, 0, 0, 0, 1, 54, 0, 0, 0), api.ErrForm}, // no instruction
		{method(1, 0, 0, 0, 0, 0, 0, 1, 3, 0, 0, 0), api.ErrShort}, // the code ends before its operands
		{method(1, 0, 0, 0, 0, 0, 0, 2, 3, 16, 0, 0, 0), api.ErrRange},
		{method(1, 0, 0, 0, 0, 0, 0, 2, 3, 16), api.ErrRange}, // before the end of the bytes
		{method(4, 0, 0, 0, 0, 0, 0, 2, 3, 16), api.ErrForm},
		{method(1, 0, 0, 0, 99, 0, 0, 2, 3, 16, 0, 0, 0, 0), api.ErrRange},                           // the code, before the bytes that remain
		{method(1, 0, 0, 0, 99, 0, 0, 1, 0x31, 0, 0, 0, 0), api.ErrForm},                             // these, before Locals
		{append(append(method(1, 0, 0, 0, 0, 0, 1, 1), make([]byte, 257)...), 0, 0, 0), api.ErrLong}, // 257 instructions
		{append(append(method(1, 0, 0, 0, 0, 0, 1, 0), make([]byte, 256)...), 0, 0, 0), api.OK},
		{append(append(method(1, 0, 0, 0, 0, 0, 1, 1), make([]byte, 256)...), 54, 0, 0), api.ErrLong},
		{append(method(1, 0, 0, 0, 0, 0, 1, 1), make([]byte, 200)...), api.ErrShort},
		{with(0, 0, 0, 1, 6, 0), api.ErrForm}, // a static field
		{with(0, 0, 0, 1, 0, 0), api.ErrType},
		{with(0, 0, 0, 0, 1, 1, 1, 0, 0), api.ErrArg}, // an applet
		{with(0, 0, 0, 0, 1, 5, 1, 1, 1, 1, 1, 0, 0), api.ErrRange},
		{with(5), api.ErrShort}, // before the number of imports
		{append(with(0, 0, 65), slices.Repeat([]byte{1, 0, 0, 0, 0, 0, 0, 1, 0x31, 0}, 65)...), api.ErrShort},
		{append(append(with(0, 0, 65), slices.Repeat([]byte{1, 0, 0, 0, 0, 0, 0, 1, 0x31, 0}, 65)...), 0, 0), api.ErrLong},
	} {
		if _, e := loadfile.Decode(x.b); e != x.e {
			t.Errorf("case %d: Decode of %x returns %d and not %d", n, x.b, e, x.e)
		}
		expectAsModel(t, x.b)
	}
}

func TestDecodeOfChangedBytes(t *testing.T) {
	b := sampleBytes()
	good := 0
	for at := range b {
		for n := range 256 {
			x := slices.Clone(b)
			x[at] = byte(n)
			if expectAsModel(t, x) {
				good++
			}
		}
	}
	if good < 800 {
		t.Error(good)
	}
}

func TestDecodeOfRandomBytes(t *testing.T) {
	r := rand.New(rand.NewPCG(28, 2))
	good := 0
	for range 10000 {
		b := encoded(random(r))
		for range r.IntN(4) {
			at, end := r.IntN(len(b)), r.IntN(len(b))
			switch r.IntN(8) {
			case 0:
				b = slices.Delete(b, min(at, end), min(at, end)+1)
			case 1:
				b = slices.Insert(b, at, byte(r.IntN(256)))
			case 2:
				b = b[:max(at, 1)]
			default:
				b[at] = byte(r.IntN(256) >> r.IntN(8))
			}
		}
		if expectAsModel(t, b) {
			good++
		}
	}
	if good < 800 {
		t.Error(good)
	}
}

// P28.3

func TestHash(t *testing.T) {
	for n := range 40 {
		b := make([]byte, n)
		for i := range b {
			b[i] = byte(i * n)
		}
		if !slices.Equal(loadfile.Hash(b), mode.Hash(b)) {
			t.Error(n)
		}
	}
	if b := loadfile.Hash(nil); len(b) != api.KeyBytes || !slices.Equal(b, mode.Hash(nil)) {
		t.Error(b)
	}
}

func expectSame(t *testing.T, a, b api.Package, want bool) {
	t.Helper()
	if loadfile.Same(a, b) != want || loadfile.Same(b, a) != want {
		t.Fatalf("Same of %v and %v is not %t", a, b, want)
	}
}

// leaves calls f with each part of a value: after each call, the part must be as before.
func leaves(v reflect.Value, f func(v reflect.Value)) {
	f(v)
	switch v.Kind() {
	case reflect.Struct:
		for i := range v.NumField() {
			leaves(v.Field(i), f)
		}
	case reflect.Slice:
		for i := range v.Len() {
			leaves(v.Index(i), f)
		}
	}
}

func TestSameOfOneDifference(t *testing.T) {
	a, b := sample(), sample()
	expectSame(t, a, b, true)
	count := 0
	leaves(reflect.ValueOf(&b).Elem(), func(v reflect.Value) {
		old := reflect.New(v.Type()).Elem()
		old.Set(v)
		switch v.Kind() {
		case reflect.Bool:
			v.SetBool(!v.Bool())
		case reflect.Int:
			v.SetInt(v.Int() + 1)
		case reflect.Uint8:
			v.SetUint(v.Uint() ^ 1)
		case reflect.Slice:
			v.Set(reflect.Append(v.Slice3(0, v.Len(), v.Len()), reflect.Zero(v.Type().Elem())))
		default:
			return
		}
		expectSame(t, a, b, false)
		if old.Kind() == reflect.Slice && old.Len() > 0 {
			v.Set(old.Slice(0, old.Len()-1))
			expectSame(t, a, b, false)
		}
		v.Set(old)
		count++
	})
	if expectSame(t, a, b, true); count < 300 {
		t.Error(count)
	}
}

func TestSameOfEmptyLists(t *testing.T) {
	expectSame(t, sample(), copied(sample()), true)
	expectSame(t, copied(sample()), normal(sample()), true)
	expectSame(t, api.Package{}, api.Package{}, true)
	expectSame(t, api.Package{}, api.Package{AID: []byte{}, Imports: []api.Import{}, Classes: []api.Class{}, Methods: []api.Method{}, Statics: []api.Type{}, Applets: []api.Applet{}}, true)
	expectSame(t, api.Package{}, empty(), false)
	expectSame(t, api.Package{Imports: make([]api.Import, 1)}, api.Package{}, false)
}

func TestSameOfRandomPackages(t *testing.T) {
	r := rand.New(rand.NewPCG(28, 3))
	same := 0
	for range 5000 {
		a := random(r)
		b := copied(a)
		for range r.IntN(3) {
			alter(r, reflect.ValueOf(&b).Elem())
		}
		expectSame(t, a, b, equal(a, b))
		if equal(a, b) {
			same++
		}
	}
	if same < 1000 || same > 4000 {
		t.Error(same)
	}
}

// P28.4

func TestRoundTrips(t *testing.T) {
	r := rand.New(rand.NewPCG(28, 4))
	good := 0
	for range 5000 {
		p := random(r)
		want := checked(p)
		if want == api.ErrLong {
			continue
		}
		if e := loadfile.Check(p); e != want || e != api.OK {
			t.Fatalf("Check of %v returns %d, the model %d", p, e, want)
		}
		b := encoded(p)
		expectEncode(t, p, b)
		expectDecode(t, b, p)
		if back, _ := loadfile.Decode(b); !loadfile.Same(back, p) {
			t.Fatalf("Same of %v and itself is false", p)
		}
		good++
	}
	if good < 4000 {
		t.Error(good)
	}
}

func TestPackagesRemain(t *testing.T) {
	r := rand.New(rand.NewPCG(28, 6))
	for n := range 1000 {
		p := copied(sample())
		if n > 0 {
			alter(r, reflect.ValueOf(&p).Elem())
		}
		p = copied(p)
		before := copied(p)
		loadfile.Check(p)
		loadfile.Encode(p)
		loadfile.Same(p, before)
		if !equal(p, before) || !sparesKept(reflect.ValueOf(p)) {
			t.Fatalf("%v is changed to %v", before, p)
		}
	}
}

func TestBytesRemain(t *testing.T) {
	b, _ := loadfile.Encode(sample())
	back, _ := loadfile.Decode(b)
	loadfile.Hash(b)
	if !slices.Equal(b, sampleBytes()) {
		t.Error("the bytes are changed")
	}
	clear(b)
	if !equal(back, sample()) {
		t.Error("a package shares memory with its bytes")
	}
}

func TestResultsShareNoMemory(t *testing.T) {
	p, _ := loadfile.Decode(sampleBytes())
	before := copied(p)
	leaves(reflect.ValueOf(&p).Elem(), func(v reflect.Value) { // writes beyond the end of each list
		if v.Kind() == reflect.Slice && v.Cap() > v.Len() {
			reflect.Append(v, reflect.Zero(v.Type().Elem()))
		}
	})
	if !equal(p, before) {
		t.Error("two lists of a package share memory")
	}
}

// P8, as far as this layer reaches

func TestInstructionsNameWhatExists(t *testing.T) {
	r := rand.New(rand.NewPCG(28, 8))
	count := 0
	for range 5000 {
		b := encoded(random(r))
		for range r.IntN(3) {
			b[r.IntN(len(b))] = byte(r.IntN(256) >> r.IntN(8))
		}
		p, e := loadfile.Decode(b)
		if e != api.OK {
			continue
		}
		j := &judge{p: p}
		for _, m := range p.Methods {
			for _, i := range m.Code {
				if code.Check(i) != api.OK || !j.exists(i, len(m.Code)) {
					t.Fatalf("%v of %v names what does not exist", i, p)
				}
				count++
			}
		}
	}
	if count < 10000 {
		t.Error(count)
	}
}
