package code_test

import (
	"math"
	"math/rand/v2"
	"slices"
	"testing"

	"smartcard/api"
	"smartcard/code"
)

// P27.1

func TestCheckOfAllOperands(t *testing.T) {
	edges := []int{math.MinInt, -1 << 32, math.MinInt32 - 1, math.MinInt32, -256, -129, -128, -127, -2, -1}
	for n := range 6 {
		edges = append(edges, n)
	}
	edges = append(edges, 14, 15, 16, 17, 31, 32, 63, 64, 127, 128, 254, 255, 256, 257, math.MaxInt32, math.MaxInt32+1, 1<<32, 1<<32+1, 1<<32+255, math.MaxInt)
	ops := []int{math.MinInt, -256, -1, 54, 55, 255, 256, 256 + api.InsPush, 1 << 32, math.MaxInt}
	for op := range 54 {
		ops = append(ops, op)
	}
	for _, op := range ops {
		for _, a := range edges {
			for _, b := range edges {
				for _, c := range edges {
					i := api.Instr{Op: op, A: a, B: b, C: c}
					if e := code.Check(i); e != wanted(i) {
						t.Fatalf("Check of %v returns %d and not %d", i, e, wanted(i))
					}
				}
			}
		}
	}
}

func TestCheckOfValidInstructions(t *testing.T) {
	l := all()
	for _, i := range l {
		if e := code.Check(i); e != api.OK {
			t.Fatal(i, e)
		}
	}
	// Of packages and classes there are 5 * 32 + 2 pairs.
	want := 26 + 24 + 2*16 + 16*256 + 12*256 + 3*162 + 3 + 4*162*16 + 2*256 + 5*64 + 15
	if len(l) != want {
		t.Errorf("%d instructions and not %d", len(l), want)
	}
}

func TestCheckOfExamples(t *testing.T) {
	for _, x := range []struct {
		i api.Instr
		e api.Errno
	}{
		{api.Instr{Op: api.InsLoad, A: 16}, api.ErrRange},
		{api.Instr{Op: api.InsPop, B: 1}, api.ErrForm},
		{api.Instr{Op: api.InsPop, A: -1, C: 1}, api.ErrForm},
		{api.Instr{Op: api.InsLoad, A: 16, B: 1}, api.ErrRange}, // A comes before B
		{api.Instr{Op: api.InsLoad, A: 15, B: 1}, api.ErrForm},
		{api.Instr{Op: api.InsNew, A: 5, B: 32, C: 1}, api.ErrRange},
		{api.Instr{Op: api.InsNew, A: 4, B: 31, C: 1}, api.ErrForm},
		{api.Instr{Op: api.InsNew, A: api.System, B: 1}, api.OK},
		{api.Instr{Op: api.InsNew, A: api.System, B: 2}, api.ErrRange},
		{api.Instr{Op: api.InsCall, A: api.System, B: 1}, api.ErrRange},
		{api.Instr{Op: api.InsCall, A: 4, B: 63}, api.OK},
		{api.Instr{Op: api.InsCount, A: 99}, api.ErrForm},
		{api.Instr{Op: -1}, api.ErrForm},
		{api.Instr{}, api.OK},
	} {
		if e := code.Check(x.i); e != x.e {
			t.Errorf("Check of %v returns %d and not %d", x.i, e, x.e)
		}
	}
}

// P27.2

func TestEncode(t *testing.T) {
	expectBytes(t, nil, nil)
	expectBytes(t, []api.Instr{{Op: api.InsLoad}, {Op: api.InsPush, A: 1}, {Op: api.InsAdd}, {Op: api.InsReturn}}, []byte{3, 0, 1, 0, 0, 0, 1, 9, 0x31})
	expectBytes(t, []api.Instr{{Op: api.InsPush, A: -2}}, []byte{1, 0xff, 0xff, 0xff, 0xfe})
	expectBytes(t, []api.Instr{{Op: api.InsPush, A: 0x12345678}, {Op: api.InsPush, A: math.MinInt32}}, []byte{1, 0x12, 0x34, 0x56, 0x78, 1, 0x80, 0, 0, 0})
	expectBytes(t, []api.Instr{{Op: api.InsInc, A: 15, B: -128}, {Op: api.InsInc, A: 1, B: 127}, {Op: api.InsInc, B: -1}}, []byte{5, 15, 0x80, 5, 1, 0x7f, 5, 0, 0xff})
	expectBytes(t, []api.Instr{{Op: api.InsGetField, A: api.System, B: 1, C: 15}, {Op: api.InsInvoke, A: 4, B: 31, C: 2}}, []byte{42, 255, 1, 15, 48, 4, 31, 2})
	expectBytes(t, []api.Instr{{Op: api.InsGoto, A: 255}, {Op: api.InsIfOther, A: 7}, {Op: api.InsPutStatic, A: 200}}, []byte{21, 255, 32, 7, 45, 200})
	expectBytes(t, []api.Instr{{Op: api.InsArray, A: api.TypeRefs}, {Op: api.InsCall, A: 1, B: 63}, {Op: api.InsNative, A: 14}, {Op: api.InsIs, A: 3, B: 30}}, []byte{34, 4, 46, 1, 63, 53, 14, 52, 3, 30})
}

func TestEncodeOfEachInstruction(t *testing.T) {
	for _, i := range all() {
		expectBytes(t, []api.Instr{i}, bytesOf(i))
	}
}

func TestEncodeErrors(t *testing.T) {
	nop, range1, form := api.Instr{}, api.Instr{Op: api.InsLoad, A: -1}, api.Instr{Op: api.InsCount}
	expectBytes(t, make([]api.Instr, 256), make([]byte, 256))
	expectEncodeError(t, make([]api.Instr, 257), api.ErrLong)
	expectEncodeError(t, append([]api.Instr{form}, make([]api.Instr, 256)...), api.ErrLong)
	expectEncodeError(t, append(make([]api.Instr, 255), range1), api.ErrRange)
	expectEncodeError(t, []api.Instr{nop, range1, form}, api.ErrRange)
	expectEncodeError(t, []api.Instr{nop, form, range1}, api.ErrForm)
	for op := -2; op <= 60; op++ {
		i := api.Instr{Op: op, A: 300}
		if e := wanted(i); e != api.OK {
			expectEncodeError(t, []api.Instr{nop, i}, e)
		}
	}
}

// P27.3

// decoded is what Decode has to return.
func decoded(b []byte) ([]api.Instr, api.Errno) {
	var l []api.Instr
	for at := 0; at < len(b); {
		if len(l) == 256 {
			return nil, api.ErrLong
		}
		if b[at] > 53 {
			return nil, api.ErrForm
		}
		i := api.Instr{Op: int(b[at])}
		at++
		for k, letter := range rows[i.Op].letters {
			n, length := 0, 1
			if letter == 'i' {
				length = 4
			}
			if at+length > len(b) {
				return nil, api.ErrShort
			}
			for _, x := range b[at : at+length] {
				n = n*256 + int(x)
			}
			if letter == 'i' && n >= 1<<31 {
				n -= 1 << 32
			}
			if letter == 's' && n >= 128 {
				n -= 256
			}
			*[]*int{&i.A, &i.B, &i.C}[k] = n
			at += length
		}
		if e := wanted(i); e != api.OK {
			return nil, e
		}
		l = append(l, i)
	}
	return l, api.OK
}

func expectDecoded(t *testing.T, b []byte) {
	t.Helper()
	if l, e := decoded(b); e != api.OK {
		expectDecodeError(t, b, e)
	} else {
		expectInstrs(t, b, l)
		expectBytes(t, l, b) // P27.8
	}
}

func TestDecode(t *testing.T) {
	expectInstrs(t, nil, nil)
	expectInstrs(t, []byte{1, 0xff, 0xff, 0xff, 0xfe}, []api.Instr{{Op: api.InsPush, A: -2}})
	expectInstrs(t, []byte{3, 0, 1, 0, 0, 0, 1, 9, 0x31}, []api.Instr{{Op: api.InsLoad}, {Op: api.InsPush, A: 1}, {Op: api.InsAdd}, {Op: api.InsReturn}})
	expectInstrs(t, []byte{5, 2, 0x80, 43, 255, 0, 9}, []api.Instr{{Op: api.InsInc, A: 2, B: -128}, {Op: api.InsPutField, A: api.System, C: 9}})
	for _, i := range all() {
		expectInstrs(t, bytesOf(i), []api.Instr{i})
	}
}

func TestDecodeOfFewBytes(t *testing.T) {
	small := []byte{0, 1, 15, 16, 31, 32, 128, 255}
	for a := range 256 {
		expectDecoded(t, []byte{byte(a)})
		for b := range 256 {
			expectDecoded(t, []byte{byte(a), byte(b)})
			for _, c := range small {
				expectDecoded(t, []byte{byte(a), byte(b), c})
				for _, d := range small {
					expectDecoded(t, []byte{byte(a), byte(b), c, d})
				}
			}
		}
	}
}

func TestDecodeErrors(t *testing.T) {
	for op := 54; op < 256; op++ {
		expectDecodeError(t, []byte{0, byte(op), 0, 0, 0, 0}, api.ErrForm)
	}
	for _, x := range []struct {
		b []byte
		e api.Errno
	}{
		{[]byte{1, 0, 0, 0}, api.ErrShort},
		{[]byte{3}, api.ErrShort},
		{[]byte{3, 16}, api.ErrRange},
		{[]byte{42, 9, 99}, api.ErrShort}, // before the error of Check
		{[]byte{42, 9, 99, 0}, api.ErrRange},
		{[]byte{3, 16, 54}, api.ErrRange}, // the first instruction with an error
		{[]byte{54, 3, 16}, api.ErrForm},
		{[]byte{3, 16, 3}, api.ErrRange},
		{[]byte{34, 1}, api.ErrRange},
		{[]byte{34, 5}, api.ErrRange},
		{[]byte{46, 255, 0}, api.ErrRange},
	} {
		expectDecodeError(t, x.b, x.e)
	}
}

func TestDecodeOfManyInstructions(t *testing.T) {
	full := make([]byte, 256)
	expectInstrs(t, full, make([]api.Instr, 256))
	for _, last := range [][]byte{{0}, {99}, {3}, {3, 16}, {1, 0}, make([]byte, 5000)} { // whatever comes after the last instruction
		expectDecodeError(t, append(slices.Clone(full), last...), api.ErrLong)
	}
	expectDecodeError(t, append(slices.Clone(full[1:]), 99, 0), api.ErrForm)
	expectDecodeError(t, append(slices.Clone(full[1:]), 3), api.ErrShort)
	expectDecodeError(t, append([]byte{3, 16}, full...), api.ErrRange)
	pushes := slices.Repeat([]byte{1, 0, 0, 1, 0}, 256)
	expectInstrs(t, pushes, slices.Repeat([]api.Instr{{Op: api.InsPush, A: 256}}, 256))
	expectDecodeError(t, append(pushes, 1), api.ErrLong)
}

// P27.6

func TestNext(t *testing.T) {
	for _, x := range []struct {
		i    api.Instr
		at   int
		want []int
	}{
		{api.Instr{Op: api.InsIfZero, A: 3}, 5, []int{3, 6}},
		{api.Instr{Op: api.InsIfZero, A: 9}, 5, []int{6, 9}},
		{api.Instr{Op: api.InsIfOther, A: 6}, 5, []int{6}},
		{api.Instr{Op: api.InsIfEq, A: 5}, 5, []int{5, 6}},
		{api.Instr{Op: api.InsGoto, A: 3}, 5, []int{3}},
		{api.Instr{Op: api.InsGoto, A: 5}, 5, []int{5}},
		{api.Instr{Op: api.InsReturn}, 5, nil},
		{api.Instr{Op: api.InsThrow}, 0, nil},
		{api.Instr{Op: api.InsNop}, 0, []int{1}},
		{api.Instr{Op: api.InsNop}, 255, []int{256}},
		{api.Instr{Op: api.InsIfNull, A: 255}, 255, []int{255, 256}},
		{api.Instr{Op: api.InsNop}, 256, nil},
		{api.Instr{Op: api.InsNop}, -1, nil},
		{api.Instr{Op: api.InsGoto, A: 256}, 5, nil},
		{api.Instr{Op: api.InsNop, A: 1}, 5, nil},
		{api.Instr{Op: api.InsCount}, 5, nil},
	} {
		if l := code.Next(x.i, x.at); !slices.Equal(l, x.want) {
			t.Errorf("Next of %v at %d returns %v and not %v", x.i, x.at, l, x.want)
		}
	}
}

func TestNextOfAllInstructions(t *testing.T) {
	for _, i := range all() {
		name := rows[i.Op].name
		for _, at := range []int{math.MinInt, -1, 0, 1, 2, 3, 100, 254, 255, 256, 1 << 32, math.MaxInt} {
			var want []int
			switch {
			case at < 0 || at > 255 || name == "return" || name == "throw":
			case name == "goto":
				want = []int{i.A}
			case rows[i.Op].letters == "j":
				want = []int{i.A, at + 1}
			default:
				want = []int{at + 1}
			}
			slices.Sort(want)
			if l := code.Next(i, at); !slices.Equal(l, slices.Compact(want)) {
				t.Fatalf("Next of %v at %d returns %v and not %v", i, at, l, want)
			}
		}
	}
}

func TestNextOfInvalidInstructions(t *testing.T) {
	for op := -3; op <= 57; op++ {
		for _, n := range []int{-1, 1, 256, 1 << 32} {
			for _, i := range []api.Instr{{Op: op, A: n}, {Op: op, B: n}, {Op: op, C: n}} {
				if l := code.Next(i, 7); wanted(i) != api.OK && len(l) > 0 {
					t.Errorf("Next of %v returns %v", i, l)
				}
			}
		}
	}
}

// P27.7

func TestNative(t *testing.T) {
	number, bytes, ints := api.Type{Kind: api.TypeInt}, api.Type{Kind: api.TypeBytes}, api.Type{Kind: api.TypeInts}
	object := api.Type{Kind: api.TypeClass, Class: api.Ref{Package: 255, Class: 0}}
	void := api.Type{}
	for n, x := range []struct {
		params []api.Type
		result api.Type
	}{
		api.NativeBegin:    {nil, void},
		api.NativeCommit:   {nil, void},
		api.NativeAbort:    {nil, void},
		api.NativeActive:   {nil, number},
		api.NativeLeft:     {nil, number},
		api.NativeBuffer:   {nil, bytes},
		api.NativeSend:     {[]api.Type{number, number}, void},
		api.NativeBytes:    {[]api.Type{number, number}, bytes},
		api.NativeInts:     {[]api.Type{number, number}, ints},
		api.NativeCaller:   {nil, number},
		api.NativeShared:   {[]api.Type{bytes, number}, object},
		api.NativeVerify:   {[]api.Type{number, number, number}, number},
		api.NativeSecure:   {nil, number},
		api.NativePersonal: {nil, void},
		api.NativeCollect:  {nil, void},
	} {
		params, result, ok := code.Native(n)
		if !ok || !slices.Equal(params, x.params) || result != x.result {
			t.Errorf("Native of %d returns %v, %v and %t, not %v and %v", n, params, result, ok, x.params, x.result)
		}
		for k := range params {
			params[k] = api.Type{Kind: 99}
		}
		if again, _, _ := code.Native(n); !slices.Equal(again, x.params) {
			t.Errorf("Native of %d shares memory with its results", n)
		}
	}
	for _, n := range []int{math.MinInt, -1, 15, 16, 255, 256, 1 << 32, math.MaxInt} {
		if params, result, ok := code.Native(n); ok || len(params) > 0 || result != void {
			t.Errorf("Native of %d returns %v, %v and %t", n, params, result, ok)
		}
	}
}

// P27.8

func TestRoundTrips(t *testing.T) {
	r := rand.New(rand.NewPCG(27, 8))
	from := all()
	for range 3000 {
		l := some(r, from, 256)
		var want []byte
		for _, i := range l {
			want = append(want, bytesOf(i)...)
		}
		expectBytes(t, l, want)
		expectInstrs(t, want, l)
		s := code.Text(l)
		expectParsed(t, s, l)
		if again, _ := code.Parse(s); code.Text(again) != s {
			t.Fatalf("Text of Parse of %q is different", s)
		}
	}
}

func TestDecodeOfRandomBytes(t *testing.T) {
	r := rand.New(rand.NewPCG(27, 3))
	from := all()
	good := 0
	for range 30000 {
		b, _ := code.Encode(some(r, from, 20))
		for range r.IntN(3) {
			if len(b) > 0 {
				b[r.IntN(len(b))] = byte(r.IntN(256) >> r.IntN(8))
			}
		}
		b = b[:len(b)-r.IntN(min(len(b), 3)+1)]
		expectDecoded(t, b)
		if _, e := decoded(b); e == api.OK {
			good++
		}
	}
	if good < 3000 {
		t.Error(good)
	}
}

func TestArgumentsRemain(t *testing.T) {
	l := []api.Instr{{Op: api.InsPush, A: 7}, {Op: api.InsReturn}}
	list, same := spare(l, api.Instr{Op: 99})
	b, _ := code.Encode(list)
	text := code.Text(list)
	if !same() || text != "push 7\nreturn\n" {
		t.Error("the instructions are changed")
	}
	raw, sameBytes := spare(b, 99)
	back, _ := code.Decode(raw)
	if !sameBytes() {
		t.Error("the bytes are changed")
	}
	clear(raw)
	clear(list)
	if !slices.Equal(back, l) || !slices.Equal(b, []byte{1, 0, 0, 0, 7, 0x31}) {
		t.Error("a result shares memory with an argument")
	}
}
