package ecc_test

import (
	"bytes"
	"math"
	"math/bits"
	"math/rand/v2"
	"slices"
	"testing"

	"smartcard/api"
	"smartcard/ecc"
)

// dataPositions are the positions of the data, as the chapter tells them.
var dataPositions = func() []int {
	var l []int
	for at := 3; at <= 29; at++ {
		if bits.OnesCount(uint(at)) > 1 {
			l = append(l, at)
		}
	}
	return l
}()

// isCodeWord is the definition of a code word.
func isCodeWord(w uint32) bool {
	syndrome := 0
	for at := 1; at <= 31; at++ {
		if w>>at&1 == 1 {
			syndrome ^= at
		}
	}
	return syndrome == 0 && bits.OnesCount32(w)%2 == 0 && w>>30 == 0
}

// content returns the data of a code word.
func content(w uint32) int {
	data := 0
	for i, at := range dataPositions {
		if w>>at&1 == 1 {
			data += 1 << i
		}
	}
	return data
}

// decoded is the definition of the result of Decode.
func decoded(w uint32) (int, int) {
	if isCodeWord(w) {
		return content(w), api.WordGood
	}
	for at := range 32 {
		if x := w ^ 1<<at; isCodeWord(x) {
			return content(x), api.WordFixed
		}
	}
	return 0, api.WordBad
}

// encoded returns a code word.
func encoded(t *testing.T, data int) uint32 {
	t.Helper()
	w, e := ecc.Encode(data)
	if e != api.OK {
		t.Fatal(data, e)
	}
	return w
}

// expectDecoded checks the result of Decode.
func expectDecoded(t *testing.T, w uint32, data, state int) {
	t.Helper()
	if got, s := ecc.Decode(w); got != data || s != state {
		t.Fatalf("%08x: %06x and %d instead of %06x and %d", w, got, s, data, state)
	}
}

// samples returns data with few ones, with few zeros, and others.
func samples() []int {
	l := []int{0, 1<<24 - 1, 0xaaaaaa, 0x555555, 0x123456, 0xfedcba}
	for i := range 24 {
		for j := range i + 1 {
			l = append(l, 1<<i|1<<j, 1<<24-1-(1<<i|1<<j))
		}
	}
	r := rand.New(rand.NewPCG(10, 0))
	for range 300 {
		l = append(l, r.IntN(1<<24))
	}
	return l
}

// P10.1

func TestEncodeExamples(t *testing.T) {
	for _, c := range []struct {
		data int
		want uint32
	}{
		{0, 0},
		{1, 0xf},                    // 3, and 0 1 2
		{2, 1<<5 | 1<<4 | 1<<1 | 1}, // 5
		{1 << 23, 1<<29 | 1<<16 | 1<<8 | 1<<4 | 1<<1 | 1}, // 29
		{1 << 11, 1<<17 | 1<<16 | 1<<1 | 1},
		{1 << 10, 1<<15 | 1<<8 | 1<<4 | 1<<2 | 1<<1 | 1},
		{3, 1<<3 | 1<<5 | 1<<2 | 1<<4}, // 3 and 5
	} {
		if got := encoded(t, c.data); got != c.want {
			t.Errorf("%x: %x instead of %x", c.data, got, c.want)
		}
	}
}

func TestEncode(t *testing.T) {
	for data := 0; data < 1<<24; data += 1 + data%11 {
		if w := encoded(t, data); !isCodeWord(w) || content(w) != data {
			t.Fatalf("%06x: %08x", data, w)
		}
	}
	for _, data := range samples() {
		if w := encoded(t, data); !isCodeWord(w) || content(w) != data {
			t.Fatalf("%06x: %08x", data, w)
		}
	}
}

func TestEncodeErrors(t *testing.T) {
	for _, data := range []int{-1, -2, 1 << 24, 1<<24 + 1, 1 << 25, 1 << 31, 1 << 32, 1<<32 + 1, math.MaxInt, math.MinInt, math.MinInt + 1} {
		if w, e := ecc.Encode(data); e != api.ErrRange || w != 0 {
			t.Error(data, w, e)
		}
	}
}

// P10.2

func TestDecodeExamples(t *testing.T) {
	for _, c := range []struct {
		w           uint32
		data, state int
	}{
		{0, 0, api.WordGood},
		{0xf, 1, api.WordGood},
		{0xb, 1, api.WordFixed},
		{0x9, 0, api.WordBad},
		{1, 0, api.WordFixed},
		{1 << 30, 0, api.WordFixed},
		{1 << 31, 0, api.WordFixed},
		{1<<30 | 0xf, 1, api.WordFixed},
		{1<<31 | 0xf, 1, api.WordFixed},
		{3 << 30, 0, api.WordBad},
		{3<<30 | 0xf, 0, api.WordBad},
		{3<<30 | 3, 0, api.WordBad},                         // syndrome 0 and an even number of ones, but free positions that are not 0
		{1<<16 | 1<<8 | 1<<4 | 1<<2 | 1, 0, api.WordBad},    // the syndrome is that of position 30, where there is a 0
		{1<<16 | 1<<8 | 1<<4 | 1<<2 | 1<<1, 0, api.WordBad}, // of position 31
		{math.MaxUint32, 0, api.WordBad},
	} {
		expectDecoded(t, c.w, c.data, c.state)
	}
}

func TestDecodeOfAllWordsWithFewOnes(t *testing.T) {
	for i := range 32 {
		for j := range i + 1 {
			for k := range j + 1 {
				for l := range k + 1 {
					w := uint32(1<<i | 1<<j | 1<<k | 1<<l)
					for _, x := range []uint32{w, w ^ 0xf, ^w} {
						data, state := decoded(x)
						expectDecoded(t, x, data, state)
					}
				}
			}
		}
	}
}

func TestDecodeOfOtherWords(t *testing.T) {
	r := rand.New(rand.NewPCG(10, 2))
	for range 300000 {
		w := r.Uint32()
		for _, x := range []uint32{w, w << 2 >> 2} {
			data, state := decoded(x)
			expectDecoded(t, x, data, state)
		}
	}
}

// P10.3

func TestWords(t *testing.T) {
	for n, want := range []int{0, 1, 1, 1, 2, 2, 2, 3, 3, 3, 4} {
		if got := ecc.Words(n); got != want {
			t.Error(n, got)
		}
	}
	for n, want := range map[int]int{48: 16, 49: 17, 1 << 32: 1431655766, math.MaxInt - 1: math.MaxInt / 3, math.MaxInt: math.MaxInt/3 + 1} {
		if got := ecc.Words(n); got != want {
			t.Error(n, got)
		}
	}
	for _, n := range []int{-1, -2, -3, -4, math.MinInt, math.MinInt + 1} {
		if got := ecc.Words(n); got != 0 {
			t.Error(n, got)
		}
	}
}

// filled returns n bytes, of which neighbours differ.
func filled(n int) []byte {
	b := make([]byte, n)
	for i := range b {
		b[i] = byte(i*i*31 + i*57 + n + 0x80)
	}
	return b
}

func TestPack(t *testing.T) {
	for _, c := range []struct {
		b    []byte
		want []int
	}{
		{nil, nil},
		{[]byte{0, 0, 1}, []int{1}},
		{[]byte{0x12, 0x34, 0x56}, []int{0x123456}},
		{[]byte{0x12}, []int{0x120000}},
		{[]byte{0x12, 0x34}, []int{0x123400}},
		{[]byte{0xff, 0xff, 0xff, 0xff, 0xff}, []int{0xffffff, 0xffff00}},
		{[]byte{0x12, 0x34, 0x56, 0x78, 0x9a, 0xbc, 0xde}, []int{0x123456, 0x789abc, 0xde0000}},
		{make([]byte, 9), []int{0, 0, 0}},
	} {
		var want []uint32
		for _, data := range c.want {
			want = append(want, encoded(t, data))
		}
		if got := ecc.Pack(c.b); !slices.Equal(got, want) {
			t.Errorf("%x: %x instead of %x", c.b, got, want)
		}
	}
	if got := ecc.Pack([]byte{0, 0, 1}); len(got) != 1 || got[0] != 0xf {
		t.Error(got)
	}
}

func TestUnpack(t *testing.T) {
	w := []uint32{encoded(t, 0x123456), encoded(t, 0x789abc)}
	for n, want := range map[int]string{4: "\x12\x34\x56\x78", 5: "\x12\x34\x56\x78\x9a", 6: "\x12\x34\x56\x78\x9a\xbc"} {
		for fixed, x := range [][]uint32{w, {w[0], w[1] ^ 1<<30}, {w[0] ^ 1, w[1] ^ 1<<29}} {
			if got, f, e := ecc.Unpack(x, n); e != api.OK || string(got) != want || f != fixed {
				t.Errorf("%d: %x %d %d", n, got, f, e)
			}
		}
	}
	if got, f, e := ecc.Unpack(nil, 0); e != api.OK || len(got) != 0 || f != 0 {
		t.Error(got, f, e)
	}
}

func TestUnpackErrors(t *testing.T) {
	good, bad := encoded(t, 0x123456), encoded(t, 0x123456)^6
	for _, c := range []struct {
		w []uint32
		n int
		e api.Errno
	}{
		{nil, -1, api.ErrArg},
		{nil, math.MinInt, api.ErrArg},
		{[]uint32{good}, -1, api.ErrArg},
		{[]uint32{good}, 0, api.ErrArg},
		{nil, 1, api.ErrArg},
		{[]uint32{good}, 4, api.ErrArg},
		{[]uint32{good, good}, 3, api.ErrArg},
		{[]uint32{good}, math.MaxInt, api.ErrArg},
		{[]uint32{bad}, 0, api.ErrArg}, // ErrArg comes first
		{[]uint32{bad, bad}, 3, api.ErrArg},
		{[]uint32{bad}, 1, api.ErrCorrupt},
		{[]uint32{bad}, 3, api.ErrCorrupt},
		{[]uint32{bad, good, good}, 9, api.ErrCorrupt},
		{[]uint32{good, bad, good}, 9, api.ErrCorrupt},
		{[]uint32{good ^ 1, good, bad}, 7, api.ErrCorrupt},
	} {
		if got, f, e := ecc.Unpack(c.w, c.n); e != c.e || len(got) != 0 || f != 0 {
			t.Errorf("%x %d: %x %d %d", c.w, c.n, got, f, e)
		}
	}
}

// P10.4

func TestOneWrongBitIsCorrected(t *testing.T) {
	for _, data := range samples() {
		w := encoded(t, data)
		expectDecoded(t, w, data, api.WordGood)
		for at := range 32 {
			expectDecoded(t, w^1<<at, data, api.WordFixed)
		}
	}
}

// P10.5

func TestTwoWrongBitsAreDetected(t *testing.T) {
	for _, data := range samples() {
		w := encoded(t, data)
		for i := range 32 {
			for j := range i {
				expectDecoded(t, w^1<<i^1<<j, 0, api.WordBad)
			}
		}
	}
}

// P10.6

func TestUnpackIsTheInverseOfPack(t *testing.T) {
	r := rand.New(rand.NewPCG(10, 6))
	for n := range 200 {
		b := filled(n)
		w := ecc.Pack(b)
		for turn := range 36 {
			damaged, count := slices.Clone(w), 0
			for i := range damaged {
				switch {
				case turn < 32: // the same bit of each word
					damaged[i] ^= 1 << turn
					count++
				case turn < 35 && r.IntN(2) == 0:
					damaged[i] ^= 1 << r.IntN(32)
					count++
				}
			}
			got, fixed, e := ecc.Unpack(damaged, n)
			if e != api.OK || !bytes.Equal(got, b) || fixed != count {
				t.Fatalf("%d, turn %d: %x %d %d", n, turn, got, fixed, e)
			}
		}
	}
}

// The rule 'Results': arguments are neither changed nor kept, and what is behind their length is left alone.

func TestResultsAreNewMemory(t *testing.T) {
	b := filled(20)
	w := ecc.Pack(b[:7])
	if !bytes.Equal(b, filled(20)) {
		t.Error("Pack changes its argument")
	}
	if got := ecc.Pack(slices.Clip(filled(20)[:7])); !slices.Equal(got, w) {
		t.Error("Pack reads what is behind its argument")
	}
	room := append(slices.Clone(w), 1, 2, 3)
	room[0] ^= 4
	before := slices.Clone(room)
	got, _, e := ecc.Unpack(room[:3], 7)
	if e != api.OK || !bytes.Equal(got, b[:7]) || !slices.Equal(room, before) {
		t.Error("Unpack changes its argument", got, e)
	}
	for i := range got {
		got[i] ^= 0xff
	}
	if again, _, _ := ecc.Unpack(room[:3], 7); !bytes.Equal(again, b[:7]) {
		t.Error("Unpack keeps its result")
	}
	for i := range w {
		w[i] = 0
	}
	if again := ecc.Pack(b[:7]); again[0] == 0 {
		t.Error("Pack keeps its result")
	}
}
