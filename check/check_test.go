package check_test

import (
	"bytes"
	"math"
	"testing"

	"smartcard/api"
	"smartcard/check"
	"smartcard/octets"
)

var kinds = []int{api.SumLRC, api.SumCRC}

// noKinds are numbers that are no kind of check values.
var noKinds = []int{-1, 2, 3, 255, 256, 1 << 32, 1<<32 + 1, math.MaxInt, math.MinInt, math.MinInt + 1}

// sum is the definition of the check value, bit by bit.
func sum(kind int, b []byte) []byte {
	if kind == api.SumLRC {
		n := byte(0)
		for _, x := range b {
			n ^= x
		}
		return []byte{n}
	}
	register := 0xffff
	for _, x := range b {
		register ^= int(x)
		for range 8 {
			out := register & 1
			register >>= 1
			if out == 1 {
				register ^= 0x8408
			}
		}
	}
	return []byte{byte(^register), byte(^register >> 8)}
}

// raw returns the bytes that a hexadecimal text denotes.
func raw(text string) []byte {
	b, e := octets.Parse(text)
	if e != api.OK {
		panic(text)
	}
	return b
}

// samples returns strings of bytes of many lengths, which are the same in every run.
func samples() [][]byte {
	all := [][]byte{nil, {}, raw("313233343536373839"), make([]byte, 300), bytes.Repeat([]byte{0xff}, 258)}
	state := uint32(1)
	for size := range 40 {
		b := make([]byte, size)
		for i := range b {
			state = state*1664525 + 1013904223
			b[i] = byte(state >> 24)
		}
		all = append(all, b)
	}
	return all
}

// behind returns b with room behind it, and a function that reports whether both are as they were.
func behind(b []byte) ([]byte, func() bool) {
	whole := append(bytes.Clone(b), 0xee, 0xee, 0xee, 0xee)
	before := bytes.Clone(whole)
	return whole[:len(b)], func() bool { return bytes.Equal(whole, before) }
}

// P3.1

func TestSize(t *testing.T) {
	if check.Size(api.SumLRC) != 1 || check.Size(api.SumCRC) != 2 {
		t.Error(check.Size(api.SumLRC), check.Size(api.SumCRC))
	}
	for _, kind := range noKinds {
		if n := check.Size(kind); n != 0 {
			t.Error(kind, n)
		}
	}
}

// P3.2

func TestSumExamples(t *testing.T) {
	for _, c := range []struct {
		kind       int
		text, want string
	}{
		{api.SumLRC, "", "00"},
		{api.SumCRC, "", "0000"},
		{api.SumLRC, "313233343536373839", "31"},
		{api.SumCRC, "313233343536373839", "6e90"},
		{api.SumLRC, "000004a0", "a4"},
		{api.SumLRC, "00", "00"},
		{api.SumCRC, "00", "78f0"},
		{api.SumLRC, "a5a5", "00"},
		{api.SumLRC, "a5a5a5", "a5"},
	} {
		if got, e := check.Sum(c.kind, raw(c.text)); e != api.OK || octets.Hex(got) != c.want {
			t.Errorf("%d %s: %x %v", c.kind, c.text, got, e)
		}
	}
}

func TestSumAgreesWithTheDefinition(t *testing.T) {
	for _, kind := range kinds {
		for _, b := range samples() {
			if got, e := check.Sum(kind, b); e != api.OK || !bytes.Equal(got, sum(kind, b)) {
				t.Fatalf("%d %x: %x %v", kind, b, got, e)
			}
		}
		for x := range 256 {
			for y := range 256 {
				b := []byte{byte(x), byte(y)}
				if got, e := check.Sum(kind, b); e != api.OK || !bytes.Equal(got, sum(kind, b)) {
					t.Fatalf("%d %x: %x %v", kind, b, got, e)
				}
			}
		}
	}
}

func TestSumOfManyBytes(t *testing.T) {
	b := bytes.Repeat([]byte{0x12, 0x9a, 0}, 1<<18)
	for _, kind := range kinds {
		if got, e := check.Sum(kind, b); e != api.OK || !bytes.Equal(got, sum(kind, b)) {
			t.Errorf("%d: %x %v", kind, got, e)
		}
	}
}

func TestNoKind(t *testing.T) {
	for _, kind := range noKinds {
		for _, b := range [][]byte{nil, {0}, {1, 3, 2}, raw("31323334353637383931"), raw("3132333435363738396e90")} {
			if got, e := check.Sum(kind, b); e != api.ErrArg || len(got) != 0 {
				t.Error("Sum", kind, got, e)
			}
			if got, e := check.Append(kind, b); e != api.ErrArg || len(got) != 0 {
				t.Error("Append", kind, got, e)
			}
			if got, e := check.Remove(kind, b); e != api.ErrArg || len(got) != 0 {
				t.Error("Remove", kind, got, e)
			}
		}
	}
}

// P3.3

func TestAppend(t *testing.T) {
	for _, c := range []struct {
		kind       int
		text, want string
	}{
		{api.SumLRC, "", "00"},
		{api.SumCRC, "", "0000"},
		{api.SumLRC, "000004a0", "000004a0a4"},
		{api.SumCRC, "00", "0078f0"},
		{api.SumCRC, "313233343536373839", "3132333435363738396e90"},
	} {
		if got, e := check.Append(c.kind, raw(c.text)); e != api.OK || octets.Hex(got) != c.want {
			t.Errorf("%d %s: %x %v", c.kind, c.text, got, e)
		}
	}
	for _, kind := range kinds {
		for _, b := range samples() {
			got, e := check.Append(kind, b)
			if e != api.OK || !bytes.Equal(got, append(bytes.Clone(b), sum(kind, b)...)) {
				t.Fatalf("%d %x: %x %v", kind, b, got, e)
			}
		}
	}
}

// P3.4

func TestRemove(t *testing.T) {
	for _, c := range []struct {
		kind       int
		text, want string
		e          api.Errno
	}{
		{api.SumLRC, "010302", "0103", api.OK},
		{api.SumLRC, "00", "", api.OK},
		{api.SumLRC, "000004a0a4", "000004a0", api.OK},
		{api.SumLRC, "", "", api.ErrShort},
		{api.SumLRC, "01", "", api.ErrSum},
		{api.SumLRC, "010303", "", api.ErrSum},
		{api.SumCRC, "0000", "", api.OK},
		{api.SumCRC, "0078f0", "00", api.OK},
		{api.SumCRC, "3132333435363738396e90", "313233343536373839", api.OK},
		{api.SumCRC, "", "", api.ErrShort},
		{api.SumCRC, "00", "", api.ErrShort},
		{api.SumCRC, "0001", "", api.ErrSum},
		{api.SumCRC, "0100", "", api.ErrSum},
		{api.SumCRC, "00f078", "", api.ErrSum}, // the most significant byte first
		{api.SumCRC, "3132333435363738399010", "", api.ErrSum},
	} {
		if got, e := check.Remove(c.kind, raw(c.text)); e != c.e || octets.Hex(got) != c.want {
			t.Errorf("%d %s: %x %v", c.kind, c.text, got, e)
		}
	}
}

func TestRemoveAcceptsOnlyTheCheckValue(t *testing.T) {
	b := raw("12009aff")
	for x := range 256 {
		got, e := check.Remove(api.SumLRC, append(bytes.Clone(b), byte(x)))
		if right := x == 0x12^0x9a^0xff; right != (e == api.OK) || right && !bytes.Equal(got, b) || !right && (e != api.ErrSum || len(got) != 0) {
			t.Fatal(x, got, e)
		}
	}
	for x := range 1 << 16 {
		end := []byte{byte(x), byte(x >> 8)}
		got, e := check.Remove(api.SumCRC, append(bytes.Clone(b), end...))
		if right := bytes.Equal(end, sum(api.SumCRC, b)); right != (e == api.OK) || right && !bytes.Equal(got, b) || !right && (e != api.ErrSum || len(got) != 0) {
			t.Fatal(x, got, e)
		}
	}
}

func TestRemoveIsTheInverseOfAppend(t *testing.T) {
	for _, kind := range kinds {
		for _, b := range samples() {
			protected, _ := check.Append(kind, b)
			if got, e := check.Remove(kind, protected); e != api.OK || !bytes.Equal(got, b) {
				t.Fatalf("%d %x: %x %v", kind, b, got, e)
			}
		}
	}
}

// P3.5

// inverted returns b, in which the bits of a pattern are inverted from a position on, counted from the first byte's least significant bit; false if the pattern does not end within b.
func inverted(b []byte, at, pattern int) ([]byte, bool) {
	b = bytes.Clone(b)
	for ; pattern != 0; at, pattern = at+1, pattern>>1 {
		if pattern&1 == 0 {
			continue
		}
		if at >= 8*len(b) {
			return nil, false
		}
		b[at/8] ^= 1 << (at % 8)
	}
	return b, true
}

func TestOneInvertedBitIsDetected(t *testing.T) {
	for _, kind := range kinds {
		for _, content := range samples() {
			protected, _ := check.Append(kind, content)
			for at := range 8 * len(protected) {
				b, _ := inverted(protected, at, 1)
				if got, e := check.Remove(kind, b); e != api.ErrSum || len(got) != 0 {
					t.Fatalf("%d %x, bit %d: %x %v", kind, protected, at, got, e)
				}
			}
		}
	}
}

func TestInvertedBitsWithin16AreDetected(t *testing.T) {
	for _, content := range [][]byte{nil, {0}, raw("31a5"), raw("000004a0ff")} {
		protected, _ := check.Append(api.SumCRC, content)
		for at := range 8 * len(protected) {
			for pattern := 1; pattern < 1<<16; pattern += 2 {
				b, inside := inverted(protected, at, pattern)
				if !inside {
					continue
				}
				if got, e := check.Remove(api.SumCRC, b); e != api.ErrSum || len(got) != 0 {
					t.Fatalf("%x, bit %d, pattern %x: %x %v", protected, at, pattern, got, e)
				}
			}
		}
	}
}

// P3.6

func xor(t *testing.T, a, b, c []byte) []byte {
	t.Helper()
	x, e := octets.Xor(a, b)
	if e == api.OK {
		x, e = octets.Xor(x, c)
	}
	if e != api.OK {
		t.Fatal(a, b, c, e)
	}
	return x
}

func TestLinearity(t *testing.T) {
	all := samples()
	for _, kind := range kinds {
		for _, long := range all {
			for size := 0; size <= len(long); size += 1 + size/4 {
				a, b, c := long[:size], long[len(long)-size:], bytes.Repeat([]byte{0x3c}, size)
				x, _ := check.Sum(kind, a)
				y, _ := check.Sum(kind, b)
				z, _ := check.Sum(kind, c)
				got, e := check.Sum(kind, xor(t, a, b, c))
				if e != api.OK || !bytes.Equal(got, xor(t, x, y, z)) {
					t.Fatalf("%d %x %x %x: %x", kind, a, b, c, got)
				}
			}
		}
	}
}

func TestLRCOfStringsOneAfterTheOther(t *testing.T) {
	for _, a := range samples() {
		for _, b := range samples() {
			x, _ := check.Sum(api.SumLRC, a)
			y, _ := check.Sum(api.SumLRC, b)
			got, e := check.Sum(api.SumLRC, octets.Join(a, b))
			if e != api.OK || len(got) != 1 || got[0] != x[0]^y[0] {
				t.Fatalf("%x %x: %x", a, b, got)
			}
		}
	}
}

// The rule 'Results': arguments are neither changed nor kept, and what is behind their length is left alone.

func TestResultsAreNewMemory(t *testing.T) {
	for _, kind := range kinds {
		for name, f := range map[string]func(int, []byte) ([]byte, api.Errno){"Sum": check.Sum, "Append": check.Append, "Remove": check.Remove} {
			right, _ := check.Append(kind, []byte{1, 2, 3})
			b, same := behind(right)
			got, e := f(kind, b)
			if e != api.OK || len(got) == 0 {
				t.Fatal(name, kind, got, e)
			}
			for i := range got[:cap(got)] {
				got[:cap(got)][i] ^= 0xff
			}
			if !same() {
				t.Error(name, kind, "shares memory with its argument, or changes it")
			}
			if again, e := f(kind, b); e != api.OK || bytes.Equal(again, got) {
				t.Error(name, kind, "keeps its result", again, e)
			}
		}
	}
}
