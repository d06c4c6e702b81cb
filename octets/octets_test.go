package octets_test

import (
	"bytes"
	"encoding/hex"
	"math"
	"math/big"
	"strings"
	"testing"

	"smartcard/api"
	"smartcard/octets"
)

// words returns all strings of at most n bytes of an alphabet, the shortest ones first.
func words(n int, alphabet ...byte) [][]byte {
	all := [][]byte{{}}
	for from := 0; n > 0; n-- {
		to := len(all)
		for ; from < to; from++ {
			for _, x := range alphabet {
				all = append(all, append(bytes.Clone(all[from]), x))
			}
		}
	}
	return all
}

// fenced returns a slice with the bytes b and room behind them, and a function that reports whether both are as they were.
func fenced(b []byte) ([]byte, func() bool) {
	whole := append(bytes.Clone(b), 0xee, 0xee, 0xee, 0xee, 0xee, 0xee, 0xee, 0xee)
	before := bytes.Clone(whole)
	return whole[:len(b)], func() bool { return bytes.Equal(whole, before) }
}

func flip(b []byte) {
	for i := range b {
		b[i] ^= 0xff
	}
}

// P1.1

func TestHex(t *testing.T) {
	if got := octets.Hex([]byte{0x0a, 0xff}); got != "0aff" {
		t.Error(got)
	}
	if got := octets.Hex(nil); got != "" {
		t.Error(got)
	}
	for x := range 256 {
		if got := octets.Hex([]byte{byte(x), 0x1e}); got != hex.EncodeToString([]byte{byte(x), 0x1e}) {
			t.Error(x, got)
		}
	}
}

func TestParse(t *testing.T) {
	for _, c := range []struct {
		text string
		want []byte
	}{
		{"", nil},
		{"0AfF", []byte{0x0a, 0xff}},
		{"00", []byte{0}},
		{"0123456789abcdef", []byte{0x01, 0x23, 0x45, 0x67, 0x89, 0xab, 0xcd, 0xef}},
		{"ABCDEFabcdef", []byte{0xab, 0xcd, 0xef, 0xab, 0xcd, 0xef}},
	} {
		got, e := octets.Parse(c.text)
		if e != api.OK || !bytes.Equal(got, c.want) {
			t.Error(c.text, got, e)
		}
	}
}

func TestParseRejects(t *testing.T) {
	texts := []string{"0", "000", "0g", "g0", " 0a", "0a ", "0 ", "0x", "-1", "00zz", "0001g2",
		"\u00e9", "\u0130\u0130", "\uff10\uff10", "\U0001f600", "\xff\xff", "\xc3\x28", "a\u0661b", "\u0130a0", "0\x00"}
	for _, text := range texts {
		if b, e := octets.Parse(text); e != api.ErrForm || len(b) != 0 {
			t.Errorf("%q: %v %v", text, b, e)
		}
	}
}

func TestParseEachByte(t *testing.T) {
	for x := range 256 {
		isDigit := strings.IndexByte("0123456789abcdefABCDEF", byte(x)) >= 0
		for _, text := range []string{"1" + string([]byte{byte(x)}), string([]byte{byte(x)}) + "1", "22" + string([]byte{byte(x)}) + "f"} {
			b, e := octets.Parse(text)
			if isDigit != (e == api.OK) || !isDigit && (e != api.ErrForm || len(b) != 0) {
				t.Errorf("%q: %v %v", text, b, e)
			}
			if want, err := hex.DecodeString(text); isDigit && (err != nil || !bytes.Equal(b, want)) {
				t.Errorf("%q: %v", text, b)
			}
		}
	}
}

// P1.2

// order is the definition of the order, position by position.
func order(a, b []byte) int {
	for i := 0; i < len(a) && i < len(b); i++ {
		if a[i] < b[i] {
			return -1
		}
		if a[i] > b[i] {
			return 1
		}
	}
	switch {
	case len(a) < len(b):
		return -1
	case len(a) > len(b):
		return 1
	}
	return 0
}

func TestCompareAndBegins(t *testing.T) {
	all := words(3, 0, 1, 0x7f, 0x80, 0xff)
	for _, a := range all {
		for _, b := range all {
			if got := octets.Compare(a, b); got != order(a, b) {
				t.Error("Compare", a, b, got)
			}
			want := len(a) >= len(b) && order(a[:len(b)], b) == 0
			if got := octets.Begins(a, b); got != want {
				t.Error("Begins", a, b, got)
			}
		}
	}
}

func TestCompareAndBeginsWithoutBytes(t *testing.T) {
	if octets.Compare(nil, nil) != 0 || octets.Compare(nil, []byte{}) != 0 || octets.Compare(nil, []byte{0}) != -1 || octets.Compare([]byte{0}, nil) != 1 {
		t.Error("Compare")
	}
	if !octets.Begins(nil, nil) || !octets.Begins([]byte{1}, nil) || octets.Begins(nil, []byte{0}) {
		t.Error("Begins")
	}
}

func TestCompareLaterPositions(t *testing.T) {
	a, b := bytes.Repeat([]byte{7}, 1000), bytes.Repeat([]byte{7}, 1000)
	b[999] = 8
	if octets.Compare(a, b) != -1 || octets.Compare(b, a) != 1 || octets.Compare(a, a) != 0 || octets.Begins(a, b) || !octets.Begins(b, a[:999]) {
		t.Error("later positions do not count")
	}
}

func TestBeginsIgnoresWhatIsBehindTheLength(t *testing.T) {
	whole := []byte{1, 2, 3}
	if octets.Begins(whole[:1], []byte{1, 2}) || octets.Compare(whole[:1], whole[:2]) != -1 {
		t.Error("bytes behind the length were read")
	}
}

// P1.3

func TestXor(t *testing.T) {
	for x := range 256 {
		for y := range 256 {
			got, e := octets.Xor([]byte{0x55, byte(x)}, []byte{0x33, byte(y)})
			if e != api.OK || !bytes.Equal(got, []byte{0x66, byte(x ^ y)}) {
				t.Fatal(x, y, got, e)
			}
		}
	}
	if got, e := octets.Xor(nil, []byte{}); e != api.OK || len(got) != 0 {
		t.Error(got, e)
	}
}

func TestXorRejects(t *testing.T) {
	for _, c := range [][2][]byte{{nil, {0}}, {{0}, nil}, {{1, 2}, {1}}, {{1}, {1, 2}}} {
		if got, e := octets.Xor(c[0], c[1]); e != api.ErrArg || len(got) != 0 {
			t.Error(c, got, e)
		}
	}
}

// P1.4

func TestPad(t *testing.T) {
	for _, c := range []struct {
		b    []byte
		n    int
		want string
	}{
		{[]byte{1, 2}, 4, "01028000"},
		{[]byte{1, 2, 3}, 4, "01020380"},
		{[]byte{1, 2, 3, 4}, 4, "0102030480000000"},
		{nil, 1, "80"},
		{[]byte{9}, 1, "0980"},
		{nil, 8, "8000000000000000"},
		{[]byte{0x80, 0}, 3, "800080"},
	} {
		if got, e := octets.Pad(c.b, c.n); e != api.OK || octets.Hex(got) != c.want {
			t.Error(c.b, c.n, got, e)
		}
	}
}

func TestPadLengths(t *testing.T) {
	for size := range 40 {
		b := bytes.Repeat([]byte{0xa5}, size)
		for n := 1; n <= 20; n++ {
			got, e := octets.Pad(b, n)
			if e != api.OK || len(got)%n != 0 || len(got) <= size || len(got) > size+n {
				t.Fatal(size, n, got, e)
			}
			if !bytes.Equal(got[:size], b) || got[size] != 0x80 || len(bytes.Trim(got[size+1:], "\x00")) != 0 {
				t.Fatal(size, n, got)
			}
		}
	}
}

func TestPadLimits(t *testing.T) {
	for _, n := range []int{0, -1, api.MaxData + 1, math.MaxInt, math.MinInt} {
		if got, e := octets.Pad([]byte{1}, n); e != api.ErrArg || len(got) != 0 {
			t.Error(n, len(got), e)
		}
	}
	if got, e := octets.Pad([]byte{1}, api.MaxData); e != api.OK || len(got) != api.MaxData || got[1] != 0x80 {
		t.Error(len(got), e)
	}
	full := make([]byte, api.MaxData)
	if got, e := octets.Pad(full, api.MaxData); e != api.OK || len(got) != 2*api.MaxData || got[api.MaxData] != 0x80 {
		t.Error(len(got), e)
	}
}

func TestUnpad(t *testing.T) {
	for _, c := range []struct{ padded, want []byte }{
		{[]byte{0, 0x80, 0}, []byte{0}},
		{[]byte{0x80}, nil},
		{[]byte{0x80, 0, 0, 0, 0, 0, 0, 0, 0, 0, 0}, nil},
		{[]byte{1, 2, 0x80}, []byte{1, 2}},
		{[]byte{0x80, 0x80}, []byte{0x80}},
		{[]byte{0x80, 0, 0x80, 0}, []byte{0x80, 0}},
	} {
		if got, e := octets.Unpad(c.padded); e != api.OK || !bytes.Equal(got, c.want) {
			t.Error(c.padded, got, e)
		}
	}
}

func TestUnpadRejects(t *testing.T) {
	for _, b := range [][]byte{nil, {0}, {0, 0}, {1}, {1, 0}, {0x80, 1}, {0x80, 0, 0x81, 0}, {0x7f}, {0xff, 0}} {
		if got, e := octets.Unpad(b); e != api.ErrForm || len(got) != 0 {
			t.Error(b, got, e)
		}
	}
}

// P1.5

func TestPut(t *testing.T) {
	for _, c := range []struct {
		n, width int
		want     string
	}{
		{0, 1, "00"}, {0, 8, "0000000000000000"}, {255, 1, "ff"}, {258, 3, "000102"}, {65535, 2, "ffff"},
		{0x010203, 3, "010203"}, {0x01020304, 4, "01020304"}, {0x0102030405060708, 8, "0102030405060708"},
		{1<<32 - 1, 4, "ffffffff"}, {1<<56 - 1, 7, "ffffffffffffff"}, {math.MaxInt, 8, "7fffffffffffffff"},
	} {
		if got, e := octets.Put(c.n, c.width); e != api.OK || octets.Hex(got) != c.want {
			t.Error(c.n, c.width, got, e)
		}
	}
}

func TestPutErrors(t *testing.T) {
	for _, c := range []struct {
		n, width int
		want     api.Errno
	}{
		{1, 0, api.ErrArg}, {1, 9, api.ErrArg}, {1, -1, api.ErrArg}, {1, math.MaxInt, api.ErrArg}, {1, math.MinInt, api.ErrArg},
		{-1, 0, api.ErrArg}, {-1, 9, api.ErrArg}, {256, 0, api.ErrArg}, // the width is checked first
		{-1, 1, api.ErrRange}, {-1, 8, api.ErrRange}, {math.MinInt, 8, api.ErrRange},
		{256, 1, api.ErrRange}, {math.MaxInt, 7, api.ErrRange},
	} {
		if got, e := octets.Put(c.n, c.width); e != c.want || len(got) != 0 {
			t.Error(c.n, c.width, got, e)
		}
	}
}

func TestPutBounds(t *testing.T) {
	for width := 1; width <= 7; width++ {
		bound := 1 << (8 * width)
		if got, e := octets.Put(bound, width); e != api.ErrRange || len(got) != 0 {
			t.Error(width, got, e)
		}
		if got, e := octets.Put(bound-1, width); e != api.OK || !bytes.Equal(got, bytes.Repeat([]byte{0xff}, width)) {
			t.Error(width, got, e)
		}
		if got, e := octets.Put(bound, width+1); e != api.OK || len(got) != width+1 || got[0] != 1 {
			t.Error(width, got, e)
		}
	}
}

func TestGet(t *testing.T) {
	for _, b := range words(8, 0, 1, 0xff) {
		want := new(big.Int).SetBytes(b)
		n, e := octets.Get(b)
		if want.IsInt64() && (e != api.OK || int64(n) != want.Int64()) || !want.IsInt64() && (e != api.ErrRange || n != 0) {
			t.Fatal(b, n, e)
		}
	}
	if n, e := octets.Get(nil); n != 0 || e != api.OK {
		t.Error(n, e)
	}
	if n, e := octets.Get([]byte{1, 2, 3}); n != 0x010203 || e != api.OK {
		t.Error(n, e)
	}
}

func TestGetErrors(t *testing.T) {
	for _, c := range []struct {
		text string
		want api.Errno
	}{
		{"8000000000000000", api.ErrRange},
		{"ffffffffffffffff", api.ErrRange},
		{"000000000000000000", api.ErrLong},
		{"ffffffffffffffffff", api.ErrLong}, // the length is checked first
		{"00000000000000000000000000000001", api.ErrLong},
	} {
		b, _ := octets.Parse(c.text)
		if n, e := octets.Get(b); n != 0 || e != c.want {
			t.Error(c.text, n, e)
		}
	}
	if n, e := octets.Get([]byte{0x7f, 255, 255, 255, 255, 255, 255, 255}); n != math.MaxInt || e != api.OK {
		t.Error(n, e)
	}
}

// P1.6

func TestJoin(t *testing.T) {
	for _, c := range []struct {
		l    [][]byte
		want []byte
	}{
		{nil, nil}, {[][]byte{nil}, nil}, {[][]byte{{1, 2}}, []byte{1, 2}},
		{[][]byte{{1}, nil, {2, 3}, {}, {4}}, []byte{1, 2, 3, 4}}, {[][]byte{{2}, {1}, {2}}, []byte{2, 1, 2}},
	} {
		if got := octets.Join(c.l...); !bytes.Equal(got, c.want) {
			t.Error(c.l, got)
		}
	}
}

func TestSplit(t *testing.T) {
	for size := range 20 {
		b := make([]byte, size)
		for i := range b {
			b[i] = byte(i + 1)
		}
		for n := 1; n <= size+3; n++ {
			l, e := octets.Split(b, n)
			if e != api.OK || len(l) != (size+n-1)/n {
				t.Fatal(size, n, l, e)
			}
			for i, p := range l {
				if !bytes.Equal(p, b[i*n:min(i*n+n, size)]) {
					t.Fatal(size, n, l)
				}
			}
		}
	}
}

func TestSplitLimits(t *testing.T) {
	if l, e := octets.Split([]byte{1, 2, 3}, math.MaxInt); e != api.OK || len(l) != 1 || !bytes.Equal(l[0], []byte{1, 2, 3}) {
		t.Error(l, e)
	}
	for _, n := range []int{0, -1, math.MinInt} {
		for _, b := range [][]byte{nil, {1}} {
			if l, e := octets.Split(b, n); e != api.ErrArg || len(l) != 0 {
				t.Error(b, n, l, e)
			}
		}
	}
}

// P1.7

func TestRoundTrips(t *testing.T) {
	for _, b := range words(4, 0, 1, 0x80, 0xff) {
		if got, e := octets.Parse(octets.Hex(b)); e != api.OK || !bytes.Equal(got, b) {
			t.Fatal("Hex", b, got, e)
		}
		if got, e := octets.Parse(strings.ToUpper(octets.Hex(b))); e != api.OK || !bytes.Equal(got, b) {
			t.Fatal("upper case", b, got, e)
		}
		for n := 1; n <= 6; n++ {
			padded, e := octets.Pad(b, n)
			if got, e2 := octets.Unpad(padded); e != api.OK || e2 != api.OK || !bytes.Equal(got, b) {
				t.Fatal("Pad", b, n, got, e, e2)
			}
			pieces, e := octets.Split(b, n)
			if e != api.OK || !bytes.Equal(octets.Join(pieces...), b) {
				t.Fatal("Split", b, n, pieces, e)
			}
		}
	}
}

func TestRoundTripsOfNumbers(t *testing.T) {
	for shift := range 63 {
		for _, n := range []int{1 << shift, 1<<shift - 1, 1<<shift + 1, 1<<shift | 0x5a} {
			for width := 1; width <= 8; width++ {
				b, e := octets.Put(n, width)
				if e == api.ErrRange && width < 8 && n>>(8*width) != 0 {
					continue
				}
				if got, e2 := octets.Get(b); e != api.OK || e2 != api.OK || got != n || len(b) != width {
					t.Fatal(n, width, b, e, e2)
				}
			}
		}
	}
}

// The rule 'Results': arguments are neither changed nor kept, and what is behind their length is left alone.

func TestResultsAreNewMemory(t *testing.T) {
	for name, f := range map[string]func(b []byte) [][]byte{
		"Xor":   func(b []byte) [][]byte { x, _ := octets.Xor(b, make([]byte, len(b))); return [][]byte{x} },
		"Pad":   func(b []byte) [][]byte { x, _ := octets.Pad(b, 4); return [][]byte{x} },
		"Unpad": func(b []byte) [][]byte { x, _ := octets.Unpad(b); return [][]byte{x} },
		"Join":  func(b []byte) [][]byte { return [][]byte{octets.Join(b), octets.Join(b, nil), octets.Join(b, b)} },
		"Split": func(b []byte) [][]byte {
			x, _ := octets.Split(b, 2)
			y, _ := octets.Split(b, 100)
			return append(x, y...)
		},
	} {
		b, same := fenced([]byte{1, 2, 3, 4, 0x80})
		results := f(b)
		if !same() {
			t.Error(name, "changes its argument")
		}
		for i, r := range results {
			if len(r) == 0 {
				t.Error(name, "has no result")
			}
			others := octets.Hex(octets.Join(results[i+1:]...))
			flip(r[:cap(r)])
			if octets.Hex(octets.Join(results[i+1:]...)) != others {
				t.Error(name, "has results that share memory")
			}
		}
		if !same() {
			t.Error(name, "returns its argument's memory")
		}
	}
}
