package code_test

import (
	"math/rand/v2"
	"slices"
	"testing"

	"smartcard/api"
	"smartcard/code"
)

// row is what the document says of an instruction: its name, and a letter for each operand.
type row struct {
	name, letters string
}

// rows has the instructions in the order of their numbers.
var rows = []row{
	{"nop", ""}, {"push", "i"}, {"null", ""}, {"load", "l"}, {"store", "l"}, {"inc", "ls"}, {"pop", ""}, {"dup", ""}, {"swap", ""},
	{"add", ""}, {"sub", ""}, {"mul", ""}, {"div", ""}, {"rem", ""}, {"neg", ""}, {"and", ""}, {"or", ""}, {"xor", ""}, {"shl", ""}, {"shr", ""}, {"ushr", ""},
	{"goto", "j"}, {"ifzero", "j"}, {"ifnot", "j"}, {"ifneg", "j"}, {"ifeq", "j"}, {"ifne", "j"}, {"iflt", "j"}, {"ifge", "j"}, {"ifnull", "j"}, {"ifsome", "j"}, {"ifsame", "j"}, {"ifother", "j"},
	{"new", "pc"}, {"array", "t"}, {"length", ""}, {"getbyte", ""}, {"putbyte", ""}, {"getint", ""}, {"putint", ""}, {"getref", ""}, {"putref", ""},
	{"getfield", "pcf"}, {"putfield", "pcf"}, {"getstatic", "g"}, {"putstatic", "g"}, {"call", "qm"}, {"virtual", "pcv"}, {"invoke", "pcv"},
	{"return", ""}, {"throw", ""}, {"cast", "pc"}, {"is", "pc"}, {"native", "n"},
}

// permitted tells whether n is an operand with this letter, after the operand before.
func permitted(letter byte, n, before int) bool {
	least, most := 0, 0
	switch letter {
	case 'i':
		least, most = -2147483648, 2147483647
	case 's':
		least, most = -128, 127
	case 'l', 'f', 'v':
		most = 15
	case 'j', 'g':
		most = 255
	case 'p':
		if most = 4; n == 255 {
			return true
		}
	case 'q':
		most = 4
	case 'c':
		if most = 31; before == 255 {
			most = 1
		}
	case 'm':
		most = 63
	case 't':
		least, most = 2, 4
	case 'n':
		most = 14
	}
	return n >= least && n <= most
}

// wanted is what Check has to return.
func wanted(i api.Instr) api.Errno {
	if i.Op < 0 || i.Op > 53 {
		return api.ErrForm
	}
	letters := rows[i.Op].letters
	l := []int{i.A, i.B, i.C}
	for k, n := range l {
		if k >= len(letters) {
			if n != 0 {
				return api.ErrForm
			}
			continue
		}
		if !permitted(letters[k], n, l[max(k-1, 0)]) {
			return api.ErrRange
		}
	}
	return api.OK
}

// bytesOf is the encoding of an instruction that is valid.
func bytesOf(i api.Instr) []byte {
	b := []byte{byte(i.Op)}
	l := []int{i.A, i.B, i.C}
	for k, letter := range rows[i.Op].letters {
		n := l[k]
		switch {
		case letter == 'i':
			if n < 0 {
				n += 1 << 32
			}
			b = append(b, byte(n/(1<<24)), byte(n/(1<<16)%256), byte(n/(1<<8)%256), byte(n%256))
		case n < 0:
			b = append(b, byte(256+n))
		default:
			b = append(b, byte(n))
		}
	}
	return b
}

// all returns all instructions that are valid, with a few integers.
func all() []api.Instr {
	var l []api.Instr
	for op, r := range rows {
		part := []api.Instr{{Op: op}}
		for k, letter := range []byte(r.letters) {
			var longer []api.Instr
			for _, i := range part {
				for _, n := range values(letter) {
					x, before := i, 0
					switch k {
					case 0:
						x.A = n
					case 1:
						x.B, before = n, i.A
					case 2:
						x.C, before = n, i.B
					}
					if permitted(letter, n, before) {
						longer = append(longer, x)
					}
				}
			}
			part = longer
		}
		l = append(l, part...)
	}
	return l
}

// values returns numbers among which all operands with a letter are, or some integers.
func values(letter byte) []int {
	if letter == 'i' {
		return []int{-2147483648, -2147483647, -65536, -32769, -256, -255, -129, -128, -2, -1, 0, 1, 9, 10, 127, 128, 255, 256, 65535, 65536, 1<<24 - 1, 1 << 24, 2147483646, 2147483647}
	}
	var l []int
	for n := -128; n <= 255; n++ {
		l = append(l, n)
	}
	return l
}

// some returns a random list of valid instructions.
func some(r *rand.Rand, from []api.Instr, most int) []api.Instr {
	l := make([]api.Instr, r.IntN(most+1))
	for k := range l {
		if l[k] = from[r.IntN(len(from))]; l[k].Op == api.InsPush {
			l[k].A = int(int32(r.Uint32()))
		}
	}
	return l
}

// spare returns the same list, with other elements between its length and its capacity, and a function that tells whether they are as they were.
func spare[T comparable](l []T, other T) ([]T, func() bool) {
	whole := append(slices.Clone(l), other, other)
	return whole[:len(l)], func() bool {
		return whole[len(l)] == other && whole[len(l)+1] == other && slices.Equal(whole[:len(l)], l)
	}
}

func expectBytes(t *testing.T, l []api.Instr, want []byte) {
	t.Helper()
	if b, e := code.Encode(l); e != api.OK || !slices.Equal(b, want) {
		t.Fatalf("Encode of %v returns %x and %d, not %x", l, b, e, want)
	}
}

func expectInstrs(t *testing.T, b []byte, want []api.Instr) {
	t.Helper()
	if l, e := code.Decode(b); e != api.OK || !slices.Equal(l, want) {
		t.Fatalf("Decode of %x returns %v and %d, not %v", b, l, e, want)
	}
}

func expectParsed(t *testing.T, s string, want []api.Instr) {
	t.Helper()
	if l, e := code.Parse(s); e != api.OK || !slices.Equal(l, want) {
		t.Fatalf("Parse of %q returns %v and %d, not %v", s, l, e, want)
	}
}

func expectEncodeError(t *testing.T, l []api.Instr, want api.Errno) {
	t.Helper()
	if b, e := code.Encode(l); e != want || len(b) != 0 {
		t.Fatalf("Encode of %v returns %x and %d, not %d", l, b, e, want)
	}
	if s := code.Text(l); s != "" {
		t.Fatalf("Text of %v returns %q", l, s)
	}
}

func expectDecodeError(t *testing.T, b []byte, want api.Errno) {
	t.Helper()
	if l, e := code.Decode(b); e != want || len(l) != 0 {
		t.Fatalf("Decode of %x returns %v and %d, not %d", b, l, e, want)
	}
}

func expectParseError(t *testing.T, s string, want api.Errno) {
	t.Helper()
	if l, e := code.Parse(s); e != want || len(l) != 0 {
		t.Fatalf("Parse of %q returns %v and %d, not %d", s, l, e, want)
	}
}
