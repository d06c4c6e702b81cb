package filehead_test

import (
	"bytes"
	"math/rand/v2"
	"slices"
	"testing"

	"smartcard/access"
	"smartcard/api"
	"smartcard/filehead"
	"smartcard/tlv"
)

// piece is a data object of file control parameters.
type piece struct {
	tag   byte
	value []byte
}

// object returns the encoding of a data object with a tag of one byte.
func object(tag byte, value []byte) []byte {
	n := len(value)
	switch {
	case n < 128:
		return append([]byte{tag, byte(n)}, value...)
	case n < 256:
		return append([]byte{tag, 0x81, byte(n)}, value...)
	}
	return append([]byte{tag, 0x82, byte(n >> 8), byte(n)}, value...)
}

// whole returns the encoding of one object 62 with pieces in it.
func whole(l ...piece) []byte {
	var b []byte
	for _, p := range l {
		b = append(b, object(p.tag, p.value)...)
	}
	return object(0x62, b)
}

// pieces returns the data objects of a valid header.
func pieces(f api.File) []piece {
	kind := []byte{byte(f.Kind)}
	if f.Kind == api.FileLinear || f.Kind == api.FileVariable || f.Kind == api.FileCyclic {
		kind = append(kind, byte(f.Length), byte(f.Records))
	}
	l := []piece{{0x82, kind}, {0x83, []byte{byte(f.ID >> 8), byte(f.ID)}}}
	if len(f.Name) > 0 {
		l = append(l, piece{0x84, f.Name})
	}
	if f.Kind == api.FileBinary {
		l = append(l, piece{0x80, []byte{byte(f.Size >> 8), byte(f.Size)}})
	}
	if f.Short > 0 {
		l = append(l, piece{0x88, []byte{byte(f.Short)}})
	}
	l = append(l, piece{0x8a, []byte{byte(f.State)}})
	if len(f.Rules) > 0 {
		b, _ := access.Encode(f.Rules)
		l = append(l, piece{0x86, b})
	}
	return l
}

func expectEncoding(t *testing.T, f api.File, want []byte) {
	t.Helper()
	if b, e := filehead.Encode(f); e != api.OK || !bytes.Equal(b, want) {
		t.Fatalf("Encode of %v: %x and %d, not %x", f, b, e, want)
	}
	if back, e := filehead.Decode(want); e != api.OK || !equal(back, f) {
		t.Fatalf("Decode of %x: %v and %d, not %v", want, back, e, f)
	}
}

func expectError(t *testing.T, b []byte, want api.Errno) {
	t.Helper()
	if f, e := filehead.Decode(b); e != want || !equal(f, api.File{}) {
		t.Errorf("Decode of %x: %v and %d, not %d", b, f, e, want)
	}
}

// P15.2 and P15.7

func TestEncode(t *testing.T) {
	for i, want := range [][]byte{
		{0x62, 0x11, 0x82, 1, 2, 0x83, 2, 0x2f, 1, 0x80, 2, 0, 0x20, 0x88, 1, 1, 0x8a, 1, 1},
		{0x62, 0x10, 0x82, 1, 1, 0x83, 2, 0x3f, 0, 0x8a, 1, 1, 0x86, 4, 0x80, 2, 8, 1},
		{0x62, 0x0a, 0x82, 1, 1, 0x83, 2, 0, 1, 0x8a, 1, 2},
		{0x62, 0x1c, 0x82, 1, 1, 0x83, 2, 0xff, 0xfe, 0x84, 1, 0, 0x8a, 1, 3, 0x86, 0x0d, 0x80, 2, 1, 1, 0x80, 7, 6, 6, 2, 2, 1, 5, 3},
	} {
		expectEncoding(t, samples[i], want)
	}
	for _, f := range samples {
		expectEncoding(t, f, whole(pieces(f)...))
	}
	r := rand.New(rand.NewPCG(15, 2))
	for range 5000 {
		f := random(r)
		expectEncoding(t, f, whole(pieces(f)...))
	}
}

func TestErrorsOfEncode(t *testing.T) {
	for _, f := range samples {
		for _, l := range defects {
			for _, d := range l {
				x := f
				if d.make(&x); d.kind != 0 && d.kind != f.Kind {
					continue
				}
				if b, e := filehead.Encode(x); e != d.e || len(b) > 0 {
					t.Errorf("Encode with %s: %x and %d", d.what, b, e)
				}
			}
		}
	}
}

// P15.3

var (
	kindOf   = piece{0x82, []byte{2}}
	idOf     = piece{0x83, []byte{0x2f, 1}}
	sizeOf   = piece{0x80, []byte{0, 32}}
	shortOf  = piece{0x88, []byte{1}}
	stateOf  = piece{0x8a, []byte{1}}
	rulesOf  = piece{0x86, []byte{0x80, 2, 1, 1}}
	dirOf    = piece{0x82, []byte{1}}
	nameOf   = piece{0x84, []byte{5, 6}}
	linearOf = piece{0x82, []byte{3, 4, 5}}
)

func TestBytesOfNoObject(t *testing.T) {
	good := whole(pieces(samples[0])...)
	expectError(t, nil, api.ErrForm)
	expectError(t, []byte{0}, api.ErrForm)
	expectError(t, good[:len(good)-1], api.ErrShort)
	expectError(t, make([]byte, 4097), api.ErrLong)
	expectError(t, append(slices.Clone(good), good...), api.ErrForm)
	expectError(t, append(slices.Clone(good), 0x80, 0), api.ErrForm)
	expectError(t, append(slices.Clone(good), 0x80, 1), api.ErrShort)
	expectError(t, append([]byte{0x80, 0}, good...), api.ErrForm)
	expectError(t, append([]byte{0x62, 0x81}, good[1:]...), api.ErrForm)
	for tag := range 256 {
		if tag != 0x62 && tag&0x1f != 0x1f {
			expectError(t, append([]byte{byte(tag)}, good[1:]...), api.ErrForm)
		}
	}
	bad := whole(kindOf, piece{0x83, []byte{0, 0}}, sizeOf, stateOf)
	expectError(t, bad, api.ErrRange)
	expectError(t, append([]byte{0x61}, bad[1:]...), api.ErrForm) // this comes before what is wrong with the values
	expectError(t, append([]byte{0x80}, bad[1:]...), api.ErrForm)
	expectError(t, append(slices.Clone(bad), bad...), api.ErrForm)
	expectError(t, object(0x62, good), api.ErrForm)
	expectError(t, object(0x62, nil), api.ErrForm)
}

// TestPartsOfWrongForm is about what is no list of parts: that is reported before all that is wrong with their values.
func TestPartsOfWrongForm(t *testing.T) {
	none, bad := piece{0x83, []byte{0, 0}}, piece{0x86, []byte{0x80, 3}}
	for _, l := range [][]piece{
		{idOf, sizeOf, stateOf},                                           // no kind
		{kindOf, sizeOf, stateOf},                                         // no identifier
		{kindOf, idOf, sizeOf},                                            // no state
		{kindOf, idOf, sizeOf, rulesOf},                                   //
		{kindOf, none, sizeOf, bad},                                       //
		{none, kindOf, sizeOf, stateOf},                                   // in another order
		{kindOf, sizeOf, idOf, stateOf},                                   //
		{kindOf, idOf, stateOf, sizeOf},                                   //
		{kindOf, idOf, shortOf, sizeOf, stateOf},                          //
		{kindOf, idOf, sizeOf, rulesOf, stateOf},                          //
		{dirOf, nameOf, idOf, stateOf},                                    //
		{dirOf, idOf, sizeOf, nameOf, stateOf},                            //
		{kindOf, kindOf, none, sizeOf, stateOf},                           // twice
		{kindOf, idOf, idOf, sizeOf, stateOf},                             //
		{kindOf, none, sizeOf, sizeOf, stateOf},                           //
		{kindOf, none, sizeOf, stateOf, stateOf},                          //
		{kindOf, idOf, sizeOf, shortOf, shortOf, stateOf},                 //
		{kindOf, idOf, sizeOf, stateOf, bad, bad},                         //
		{dirOf, idOf, nameOf, nameOf, stateOf},                            //
		{kindOf, idOf, sizeOf, stateOf, bad, {0x87, nil}},                 // a tag that is not of the table
		{{0x81, []byte{1}}, kindOf, idOf, sizeOf, stateOf},                //
		{kindOf, idOf, {0x85, []byte{1}}, sizeOf, stateOf},                //
		{kindOf, idOf, sizeOf, {0xa2, nil}, stateOf},                      //
		{{0x82, nil}, idOf, sizeOf, stateOf},                              // a kind without bytes
		{{0x82, []byte{2, 0}}, idOf, sizeOf, stateOf},                     // with two
		{{0x82, []byte{3, 4, 5, 0}}, idOf, stateOf},                       // with four
		{kindOf, {0x83, []byte{1}}, sizeOf, stateOf},                      // an identifier of one byte
		{kindOf, {0x83, []byte{0, 1, 2}}, sizeOf, stateOf},                // of three
		{kindOf, {0x83, nil}, sizeOf, stateOf},                            // of none
		{kindOf, none, {0x80, []byte{32}}, stateOf},                       // a size of one byte
		{kindOf, idOf, {0x80, []byte{0, 0, 32}}, stateOf},                 // of three
		{kindOf, idOf, {0x80, nil}, stateOf},                              // of none
		{kindOf, none, sizeOf, {0x88, []byte{0, 1}}, stateOf},             // a short identifier of two bytes
		{kindOf, idOf, sizeOf, {0x88, nil}, stateOf},                      // of none
		{kindOf, none, sizeOf, {0x8a, []byte{0, 1}}, bad},                 // a state of two bytes
		{kindOf, idOf, sizeOf, {0x8a, nil}},                               // of none
		{{0x82, make([]byte, 300)}, none, sizeOf, {0x8a, []byte{9}}, bad}, // a long kind
	} {
		expectError(t, whole(l...), api.ErrForm)
	}
}

// TestRulesOfWrongForm is about the errors of access.Decode, which come before those of Check.
func TestRulesOfWrongForm(t *testing.T) {
	none := piece{0x83, []byte{0, 0}}
	for _, l := range [][]piece{{kindOf, idOf, sizeOf, stateOf}, {kindOf, none, sizeOf, stateOf}, {{0x82, []byte{7}}, idOf, stateOf}} {
		for _, x := range []struct {
			rules []byte
			e     api.Errno
		}{
			{[]byte{0x80, 3, 1, 1}, api.ErrShort},
			{[]byte{0x80}, api.ErrShort},
			{[]byte{0x80, 2, 0, 1}, api.ErrForm},
			{[]byte{0x81, 2, 1, 1}, api.ErrForm},
			{bytes.Repeat([]byte{0x80, 2, 1, 1}, 9), api.ErrForm},
		} {
			if _, e := access.Decode(x.rules); e != x.e {
				t.Error(e)
			}
			expectError(t, whole(append(slices.Clip(l), piece{0x86, x.rules})...), x.e)
		}
	}
}

// TestInvalidHeaders is about parts of the right form that describe a header that is not valid.
func TestInvalidHeaders(t *testing.T) {
	for _, x := range []struct {
		l []piece
		e api.Errno
	}{
		{[]piece{{0x82, []byte{0}}, idOf, sizeOf, stateOf}, api.ErrArg},
		{[]piece{{0x82, []byte{6}}, {0x83, []byte{0, 0}}, stateOf}, api.ErrArg},
		{[]piece{kindOf, {0x83, []byte{0, 0}}, stateOf}, api.ErrRange},
		{[]piece{kindOf, {0x83, []byte{0x3f, 0xff}}, sizeOf, stateOf}, api.ErrRange},
		{[]piece{kindOf, {0x83, []byte{0xff, 0xff}}, sizeOf, stateOf}, api.ErrRange},
		{[]piece{dirOf, idOf, {0x84, make([]byte, 17)}, stateOf}, api.ErrLong},
		{[]piece{kindOf, idOf, {0x84, make([]byte, 300)}, sizeOf, stateOf}, api.ErrLong},
		{[]piece{kindOf, idOf, nameOf, sizeOf, stateOf}, api.ErrForm},
		{[]piece{kindOf, idOf, sizeOf, {0x88, []byte{31}}, stateOf}, api.ErrRange},
		{[]piece{dirOf, idOf, {0x88, []byte{255}}, stateOf}, api.ErrRange},
		{[]piece{dirOf, idOf, shortOf, stateOf}, api.ErrForm},
		{[]piece{dirOf, idOf, sizeOf, stateOf}, api.ErrForm},
		{[]piece{kindOf, idOf, stateOf}, api.ErrRange}, // no size
		{[]piece{kindOf, idOf, {0x80, []byte{0, 0}}, stateOf}, api.ErrRange},
		{[]piece{kindOf, idOf, {0x80, []byte{4, 1}}, stateOf}, api.ErrRange},
		{[]piece{{0x82, []byte{2, 1, 0}}, idOf, sizeOf, stateOf}, api.ErrForm},
		{[]piece{{0x82, []byte{2, 0, 1}}, idOf, sizeOf, {0x8a, []byte{0}}}, api.ErrForm},
		{[]piece{{0x82, []byte{3}}, idOf, stateOf}, api.ErrRange},
		{[]piece{{0x82, []byte{3, 255, 1}}, idOf, stateOf}, api.ErrRange},
		{[]piece{{0x82, []byte{4, 1, 0}}, idOf, stateOf}, api.ErrRange},
		{[]piece{{0x82, []byte{5, 254, 5}}, idOf, {0x8a, []byte{0}}}, api.ErrLong},
		{[]piece{kindOf, idOf, sizeOf, {0x8a, []byte{0}}}, api.ErrRange},
		{[]piece{kindOf, idOf, sizeOf, {0x8a, []byte{4}}, rulesOf}, api.ErrRange},
		{[]piece{kindOf, {0x84, nil}, idOf, sizeOf, stateOf}, api.ErrForm},
		{[]piece{kindOf, {0x83, []byte{0, 0}}, {0x84, nil}, sizeOf, stateOf}, api.ErrRange}, // before what follows
	} {
		expectError(t, whole(x.l...), x.e)
	}
}

// TestPartsThatAreNotThere is about parts of valid headers that Encode does not write.
func TestPartsThatAreNotThere(t *testing.T) {
	for _, l := range [][]piece{
		{dirOf, idOf, {0x84, nil}, stateOf},
		{kindOf, idOf, {0x84, nil}, sizeOf, stateOf},
		{dirOf, idOf, {0x80, []byte{0, 0}}, stateOf},
		{linearOf, idOf, {0x80, []byte{0, 0}}, stateOf},
		{kindOf, idOf, sizeOf, {0x88, []byte{0}}, stateOf},
		{dirOf, idOf, {0x88, []byte{0}}, stateOf},
		{kindOf, idOf, sizeOf, stateOf, {0x86, nil}},
		{{0x82, []byte{2, 0, 0}}, idOf, sizeOf, stateOf},
		{{0x82, []byte{1, 0, 0}}, idOf, stateOf},
	} {
		expectError(t, whole(l...), api.ErrForm)
	}
}

// wanted returns the error of Decode for data objects, as the document defines it, and the header.
func wanted(l []piece) (api.File, api.Errno) {
	const order = "\x82\x83\x84\x80\x88\x8a\x86"
	at, values := -1, map[byte][]byte{}
	for _, p := range l {
		i, n := bytes.IndexByte([]byte(order), p.tag), len(p.value)
		fine := map[byte]bool{0x82: n == 1 || n == 3, 0x83: n == 2, 0x84: true, 0x80: n == 2, 0x88: n == 1, 0x8a: n == 1, 0x86: true}
		if i <= at || !fine[p.tag] {
			return api.File{}, api.ErrForm
		}
		at, values[p.tag] = i, append([]byte{}, p.value...)
	}
	if values[0x82] == nil || values[0x83] == nil || values[0x8a] == nil {
		return api.File{}, api.ErrForm
	}
	rules, e := access.Decode(values[0x86])
	if e != api.OK {
		return api.File{}, e
	}
	f := api.File{Kind: int(values[0x82][0]), ID: int(values[0x83][0])<<8 | int(values[0x83][1]), Name: values[0x84], State: int(values[0x8a][0]), Rules: rules}
	if len(values[0x82]) == 3 {
		f.Length, f.Records = int(values[0x82][1]), int(values[0x82][2])
	}
	if b := values[0x80]; b != nil {
		f.Size = int(b[0])<<8 | int(b[1])
	}
	if b := values[0x88]; b != nil {
		f.Short = int(b[0])
	}
	if e := filehead.Check(f); e != api.OK {
		return api.File{}, e
	}
	if !bytes.Equal(whole(pieces(f)...), whole(l...)) {
		return api.File{}, api.ErrForm
	}
	return f, api.OK
}

// altered returns data objects with a change.
func altered(r *rand.Rand, l []piece) []piece {
	l = slices.Clone(l)
	i, k := r.IntN(len(l)), r.IntN(len(l))
	switch r.IntN(8) {
	case 0:
		l[i], l[k] = l[k], l[i]
	case 1:
		if len(l) > 1 {
			l = slices.Delete(l, i, i+1)
		}
	case 2:
		l = slices.Insert(l, i, l[k])
	case 3:
		l[i].tag = []byte{0x80, 0x82, 0x83, 0x84, 0x86, 0x88, 0x8a, 0x85, 0x01}[r.IntN(9)]
	case 4:
		l[i].value = make([]byte, r.IntN(4))
	case 5:
		l = slices.Insert(l, i, piece{[]byte{0x80, 0x82, 0x84, 0x88, 0x86}[r.IntN(5)], make([]byte, r.IntN(4))})
	default:
		l[i].value = append([]byte{0}, l[i].value...)[1:]
		if len(l[i].value) > 0 {
			l[i].value[r.IntN(len(l[i].value))] = byte([]int{0, 1, 2, 3, 4, 5, 31, 255, r.IntN(256)}[r.IntN(9)])
		}
	}
	return l
}

// TestDecodeOfAlteredParts compares Decode with its definition.
func TestDecodeOfAlteredParts(t *testing.T) {
	r := rand.New(rand.NewPCG(15, 3))
	count := map[api.Errno]int{}
	for range 60000 {
		l := pieces(random(r))
		for range 1 + r.IntN(2) {
			l = altered(r, l)
		}
		want, e := wanted(l)
		got, d := filehead.Decode(whole(l...))
		if d != e || !equal(got, want) {
			t.Fatalf("Decode of %x: %v and %d, not %v and %d", whole(l...), got, d, want, e)
		}
		count[e]++
	}
	for _, e := range []api.Errno{api.OK, api.ErrForm, api.ErrRange, api.ErrLong, api.ErrArg, api.ErrShort} {
		if count[e] < 20 {
			t.Error("the result", e, "was tried", count[e], "times")
		}
	}
}

// TestDecodeOfDamagedBytes changes single bytes: what can still be decoded is what Encode returns, and other bytes have the errors of tlv.Decode first.
func TestDecodeOfDamagedBytes(t *testing.T) {
	r := rand.New(rand.NewPCG(15, 7))
	for _, f := range samples {
		good := whole(pieces(f)...)
		for range 3000 {
			b := slices.Clone(good)
			for range 1 + r.IntN(2) {
				b[r.IntN(len(b))] ^= 1 << r.IntN(8)
			}
			b = b[:len(b)-r.IntN(2)*r.IntN(3)]
			before := slices.Clone(b)
			back, e := filehead.Decode(b)
			if !bytes.Equal(b, before) {
				t.Fatal("the argument was changed")
			}
			if _, first := tlv.Decode(b); first != api.OK && e != first {
				t.Fatalf("Decode of %x returns %d and not %d", b, e, first)
			}
			if e != api.OK {
				continue
			}
			if again, e := filehead.Encode(back); e != api.OK || !bytes.Equal(again, b) {
				t.Fatalf("%x is decoded to %v, whose encoding is %x", b, back, again)
			}
		}
	}
}

// TestDecodeIsNew changes the argument and the result of Decode.
func TestDecodeIsNew(t *testing.T) {
	b := whole(pieces(samples[3])...)
	f, _ := filehead.Decode(b)
	clear(b)
	if !equal(f, samples[3]) {
		t.Error("the header has changed with the bytes")
	}
	g, _ := filehead.Decode(whole(pieces(samples[3])...))
	clear(f.Name)
	f.Rules[1].Cond.Kids[0].N = 7
	if !equal(g, samples[3]) {
		t.Error("the header has changed with another one")
	}
	name := []byte{1, 2, 3}
	b, _ = filehead.Encode(api.File{ID: 2, Kind: api.FileDF, Name: name, State: api.FileActive})
	before := slices.Clone(b)
	name[0] = 9
	if !bytes.Equal(b, before) {
		t.Error("the bytes have changed with the header")
	}
}
