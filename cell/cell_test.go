package cell_test

import (
	"math"
	"slices"
	"testing"

	"smartcard/api"
	"smartcard/cell"
)

// made returns a new memory.
func made(t *testing.T, words, endurance int) *cell.Memory {
	t.Helper()
	m, e := cell.New(api.MemoryConfig{Words: words, Endurance: endurance})
	if e != api.OK || m == nil {
		t.Fatal(words, endurance, e)
	}
	return m
}

// write writes words that have to succeed: addresses and values in turn.
func write(t *testing.T, m *cell.Memory, l ...uint32) {
	t.Helper()
	for i := 0; i < len(l); i += 2 {
		if e := m.Write(int(l[i]), l[i+1]); e != api.OK {
			t.Fatal(l[i:i+2], e)
		}
	}
}

// expect checks the result of a call that returns an error only.
func expect(t *testing.T, name string, got, want api.Errno) {
	t.Helper()
	if got != want {
		t.Errorf("%s: %d instead of %d", name, got, want)
	}
}

// expectWord checks what Read returns.
func expectWord(t *testing.T, m *cell.Memory, a int, want uint32, e api.Errno) {
	t.Helper()
	if got, f := m.Read(a); got != want || f != e {
		t.Errorf("Read of %d: %x and %d instead of %x and %d", a, got, f, want, e)
	}
}

// expectImage checks all words, by Image, which works without power, too.
func expectImage(t *testing.T, m *cell.Memory, want ...uint32) {
	t.Helper()
	if got := m.Image(); !slices.Equal(got, want) {
		t.Errorf("Image: %x instead of %x", got, want)
	}
}

// expectCounts checks the numbers of writes and cuts, and the power.
func expectCounts(t *testing.T, m *cell.Memory, writes, cuts int, power bool) {
	t.Helper()
	if m.Writes() != writes || m.Cuts() != cuts || m.Power() != power {
		t.Errorf("writes %d, cuts %d, power %v instead of %d, %d, %v", m.Writes(), m.Cuts(), m.Power(), writes, cuts, power)
	}
}

// outside are numbers that are none of the words of a memory of n words.
func outside(n int) []int {
	return []int{-1, n, n + 1, -n, api.MaxWords, 1 << 32, -1 << 32, math.MaxInt, math.MinInt, math.MinInt + 1}
}

// P9.1

func TestNew(t *testing.T) {
	for _, words := range []int{1, 2, 31, 32, 33, 240, 65535, api.MaxWords} {
		for _, endurance := range []int{1, 2, 1 << 30, math.MaxInt} {
			m := made(t, words, endurance)
			expectImage(t, m, make([]uint32, words)...)
			expectCounts(t, m, 0, 0, true)
			if m.Words() != words || m.Wear(0) != 0 || m.Wear(words-1) != 0 {
				t.Error(words, endurance, m.Words())
			}
		}
	}
}

func TestNewErrors(t *testing.T) {
	noWords := []int{0, -1, api.MaxWords + 1, 1 << 32, 1<<32 + 1, math.MaxInt, math.MinInt, math.MinInt + 1}
	noEndurance := []int{0, -1, math.MinInt, math.MinInt + 1}
	for _, words := range noWords {
		for _, endurance := range append(noEndurance, 1, 100) {
			if m, e := cell.New(api.MemoryConfig{Words: words, Endurance: endurance}); e != api.ErrArg || m != nil {
				t.Error(words, endurance, e)
			}
		}
	}
	for _, words := range []int{1, 100, api.MaxWords} {
		for _, endurance := range noEndurance {
			if m, e := cell.New(api.MemoryConfig{Words: words, Endurance: endurance}); e != api.ErrArg || m != nil {
				t.Error(words, endurance, e)
			}
		}
	}
}

// P9.2

func TestRead(t *testing.T) {
	m := made(t, 3, 100)
	write(t, m, 0, 7, 2, math.MaxUint32, 0, 8)
	expectWord(t, m, 0, 8, api.OK)
	expectWord(t, m, 1, 0, api.OK)
	expectWord(t, m, 2, math.MaxUint32, api.OK)
	for _, a := range outside(3) {
		expectWord(t, m, a, 0, api.ErrRange)
	}
	expectCounts(t, m, 3, 0, true)
}

func TestReadWithoutPower(t *testing.T) {
	m := made(t, 3, 100)
	write(t, m, 0, 7)
	m.Cut(0)
	expectWord(t, m, 0, 7, api.OK) // the cut is still pending
	m.Write(0, 1)
	for _, a := range append(outside(3), 0, 1, 2) {
		expectWord(t, m, a, 0, api.ErrPower)
	}
	if m.Words() != 3 {
		t.Error(m.Words())
	}
	m.Restore()
	expectWord(t, m, 0, 7, api.OK)
	expectWord(t, m, 3, 0, api.ErrRange)
}

// P9.3

func TestWrite(t *testing.T) {
	m := made(t, 2, 100)
	write(t, m, 1, 5, 1, 6, 0, 7, 1, 0xf0000001)
	expectImage(t, m, 7, 0xf0000001)
	expectCounts(t, m, 4, 0, true)
	for _, a := range outside(2) {
		expect(t, "outside", m.Write(a, 9), api.ErrRange)
	}
	expectImage(t, m, 7, 0xf0000001)
	expectCounts(t, m, 4, 0, true)
}

func TestEndurance(t *testing.T) {
	for _, endurance := range []int{1, 2, 3, 50} {
		for a := range 70 {
			m := made(t, 70, endurance)
			for n := range endurance + 3 {
				v := uint32(n) * 0x9e3779b9
				want := v
				if n >= endurance {
					want = v ^ 1<<(a%32)
				}
				write(t, m, uint32(a), v)
				expectWord(t, m, a, want, api.OK)
				if m.Wear(a) != n+1 || m.Writes() != n+1 {
					t.Fatal(endurance, a, n, m.Wear(a), m.Writes())
				}
			}
		}
	}
}

func TestEnduranceIsThatOfOneWord(t *testing.T) {
	m := made(t, 4, 2)
	write(t, m, 0, 1, 1, 1, 2, 1, 3, 1, 1, 2, 1, 4)
	expectImage(t, m, 1, 4^2, 1, 1)
	write(t, m, 0, 8, 2, 8, 1, 2)
	expectImage(t, m, 8, 0, 8, 1)
}

func TestWornExample(t *testing.T) {
	m := made(t, 34, 2)
	for _, want := range []uint32{5, 5, 7} {
		write(t, m, 33, 5)
		expectWord(t, m, 33, want, api.OK)
	}
}

func TestWriteAtACut(t *testing.T) {
	for n := range 6 {
		m := made(t, 2, 100)
		write(t, m, 0, 77)
		expect(t, "Cut", m.Cut(n), api.OK)
		for i := range n {
			write(t, m, uint32(i%2), uint32(i+1))
		}
		before := m.Image()
		expectCounts(t, m, n+1, 0, true)
		expect(t, "at the cut", m.Write(0, 99), api.ErrPower)
		expectImage(t, m, before...)
		expectCounts(t, m, n+1, 1, false)
		if wear := m.Wear(0) + m.Wear(1); wear != n+1 {
			t.Error(n, wear)
		}
		for _, a := range append(outside(2), 0, 1) {
			expect(t, "without power", m.Write(a, 99), api.ErrPower)
		}
		expectImage(t, m, before...)
		expectCounts(t, m, n+1, 1, false)
	}
}

func TestWriteThatIsOutsideDoesNotCut(t *testing.T) {
	m := made(t, 2, 100)
	m.Cut(0)
	expect(t, "with 0 writes", m.Write(2, 1), api.ErrRange)
	expectCounts(t, m, 0, 0, true)
	m.Cut(1)
	for range 5 {
		expect(t, "with 1 write", m.Write(-1, 1), api.ErrRange)
	}
	write(t, m, 0, 1) // the one that is left
	expect(t, "with no write left", m.Write(2, 1), api.ErrRange)
	expectCounts(t, m, 1, 0, true)
	expect(t, "at the cut", m.Write(0, 2), api.ErrPower)
	expectCounts(t, m, 1, 1, false)
}

// P9.4

func TestCutExample(t *testing.T) {
	m := made(t, 2, 100)
	expect(t, "Cut", m.Cut(2), api.OK)
	write(t, m, 0, 1, 1, 2)
	expect(t, "third", m.Write(0, 3), api.ErrPower)
	for range 3 {
		expectWord(t, m, 0, 0, api.ErrPower)
		expect(t, "without power", m.Write(0, 3), api.ErrPower)
		expectCounts(t, m, 2, 1, false)
	}
	m.Restore()
	expectCounts(t, m, 2, 1, true)
	expectWord(t, m, 0, 1, api.OK)
	write(t, m, 0, 3, 0, 4, 0, 5) // the cut is over
	expectImage(t, m, 5, 2)
	expectCounts(t, m, 5, 1, true)
}

func TestCutReplacesThePendingOne(t *testing.T) {
	for _, first := range []int{0, 1, 3, math.MaxInt} {
		for n := range 4 {
			m := made(t, 1, 100)
			m.Cut(first)
			expect(t, "second Cut", m.Cut(n), api.OK)
			for range n {
				write(t, m, 0, 1)
			}
			expect(t, "at the cut", m.Write(0, 2), api.ErrPower)
			expectCounts(t, m, n, 1, false)
		}
	}
}

func TestCutErrors(t *testing.T) {
	m := made(t, 1, 100)
	m.Cut(1)
	for _, n := range []int{-1, -2, math.MinInt, math.MinInt + 1} {
		expect(t, "negative", m.Cut(n), api.ErrRange)
	}
	expectCounts(t, m, 0, 0, true)
	write(t, m, 0, 1)
	expect(t, "at the first cut", m.Write(0, 2), api.ErrPower) // the errors have left it as it was
	for _, n := range []int{0, 1, 100, -1, math.MinInt} {
		expect(t, "without power", m.Cut(n), api.ErrPower)
	}
	expectCounts(t, m, 1, 1, false)
	m.Restore()
	write(t, m, 0, 3, 0, 4, 0, 5) // no cut is pending
	expectCounts(t, m, 4, 1, true)
	expect(t, "negative", m.Cut(-1), api.ErrRange)
	write(t, m, 0, 6)
}

func TestRestore(t *testing.T) {
	m := made(t, 1, 100)
	m.Restore()
	expectCounts(t, m, 0, 0, true)
	for _, n := range []int{0, 1} {
		m.Cut(n)
		m.Restore() // also forgets a cut that has not happened
		write(t, m, 0, 1, 0, 2)
	}
	expectCounts(t, m, 4, 0, true)
	for cuts := range 5 {
		m.Cut(0)
		expect(t, "at the cut", m.Write(0, 3), api.ErrPower)
		expectCounts(t, m, 4, cuts+1, false)
		m.Restore()
		m.Restore()
		expectCounts(t, m, 4, cuts+1, true)
	}
	expectImage(t, m, 2)
}

// P9.5

func TestCountsWithoutPower(t *testing.T) {
	m := made(t, 3, 1)
	write(t, m, 1, 5, 1, 5, 2, 6)
	m.Cut(0)
	m.Write(0, 1)
	for range 2 { // first without power, then with it
		expectImage(t, m, 0, 5^2, 6)
		for a, want := range []int{0, 2, 1} {
			if m.Wear(a) != want {
				t.Error(a, m.Wear(a))
			}
		}
		for _, a := range outside(3) {
			if m.Wear(a) != 0 {
				t.Error(a, m.Wear(a))
			}
		}
		if m.Writes() != 3 || m.Cuts() != 1 {
			t.Error(m.Writes(), m.Cuts())
		}
		m.Restore()
	}
}

func TestImageIsNewMemory(t *testing.T) {
	m := made(t, 3, 100)
	write(t, m, 0, 1, 1, 2, 2, 3)
	first, second := m.Image(), m.Image()
	for i := range first {
		first[i] = 99
	}
	_ = append(first[:1], 98, 97)
	if !slices.Equal(second, []uint32{1, 2, 3}) {
		t.Error(second)
	}
	write(t, m, 0, 4)
	if second[0] != 1 {
		t.Error("an image changes with the memory")
	}
	expectImage(t, m, 4, 2, 3)
}

// P9.6

func TestFlip(t *testing.T) {
	for bit := range 32 {
		m := made(t, 3, 100)
		write(t, m, 1, 0xa5a5a5a5)
		expect(t, "Flip", m.Flip(1, bit), api.OK)
		expectImage(t, m, 0, 0xa5a5a5a5^1<<bit, 0)
		expect(t, "Flip of another word", m.Flip(2, bit), api.OK)
		expect(t, "Flip again", m.Flip(1, bit), api.OK)
		expectImage(t, m, 0, 0xa5a5a5a5, 1<<bit)
		expectCounts(t, m, 1, 0, true)
		if m.Wear(1) != 1 || m.Wear(2) != 0 {
			t.Error(bit, m.Wear(1), m.Wear(2))
		}
		write(t, m, 2, 5) // what is written does not depend on what was there
		expectWord(t, m, 2, 5, api.OK)
	}
}

func TestFlipIsNoWrite(t *testing.T) {
	m := made(t, 2, 1)
	m.Cut(1)
	for range 5 {
		expect(t, "with a pending cut", m.Flip(0, 3), api.OK)
	}
	write(t, m, 0, 1)
	expectWord(t, m, 0, 1, api.OK) // not worn
	expect(t, "at the cut", m.Write(1, 1), api.ErrPower)
	expect(t, "without power", m.Flip(1, 31), api.OK)
	expectImage(t, m, 1, 1<<31)
	expectCounts(t, m, 1, 1, false)
}

func TestFlipErrors(t *testing.T) {
	m := made(t, 2, 1)
	for range 2 { // first with power, then without it
		for _, a := range outside(2) {
			for _, bit := range []int{-1, 0, 31, 32} {
				expect(t, "no word", m.Flip(a, bit), api.ErrRange)
			}
		}
		for _, bit := range []int{-1, 32, 33, 64, 1 << 32, math.MaxInt, math.MinInt} {
			expect(t, "no bit", m.Flip(1, bit), api.ErrRange)
		}
		m.Cut(0)
		m.Write(0, 1)
	}
	expectImage(t, m, 0, 0)
}

// P9.7

func TestClone(t *testing.T) {
	m := made(t, 3, 2)
	write(t, m, 1, 5, 1, 5, 1, 5, 2, 6)
	m.Flip(0, 4)
	m.Cut(1)
	first := m.Clone()
	write(t, m, 0, 1)
	m.Write(0, 2)
	second := m.Clone()
	m.Restore()
	third := m.Clone()

	expectImage(t, first, 16, 5^2, 6)
	expectCounts(t, first, 4, 0, true)
	write(t, first, 0, 8) // one write happens before the pending cut
	expect(t, "the clone's cut", first.Write(0, 9), api.ErrPower)
	expectCounts(t, first, 5, 1, false)

	expectImage(t, second, 1, 5^2, 6)
	expectCounts(t, second, 5, 1, false)
	expectWord(t, second, 0, 0, api.ErrPower)
	second.Restore()
	write(t, second, 0, 3, 0, 3) // the endurance is the same
	expectImage(t, second, 3^1, 5^2, 6)

	expectImage(t, third, 1, 5^2, 6)
	expectCounts(t, third, 5, 1, true)
	write(t, third, 2, 3, 2, 3)
	expectImage(t, third, 1, 5^2, 3^4)
	for n, c := range []*cell.Memory{first, second, third} {
		if c.Words() != 3 || c.Wear(1) != 3 {
			t.Error(n, c.Words(), c.Wear(1))
		}
	}
}

func TestClonesAreIndependent(t *testing.T) {
	m := made(t, 2, 2)
	write(t, m, 0, 5)
	c := m.Clone()
	write(t, c, 0, 6, 0, 7)
	c.Flip(1, 0)
	expectImage(t, m, 5, 0)
	expectCounts(t, m, 1, 0, true)
	c.Cut(0)
	write(t, m, 1, 9)
	expect(t, "the clone's cut", c.Write(0, 1), api.ErrPower)
	expectCounts(t, m, 2, 0, true)
	expectImage(t, c, 7^1, 1)
	expectCounts(t, c, 3, 1, false)
	if m.Wear(0) != 1 || c.Wear(0) != 3 || m.Wear(1) != 1 || c.Wear(1) != 0 {
		t.Error(m.Wear(0), c.Wear(0), m.Wear(1), c.Wear(1))
	}
}

// P9.8

func TestNothingChangesWithoutPower(t *testing.T) {
	m := made(t, 4, 2)
	write(t, m, 0, 1, 1, 2, 2, 3, 3, 4)
	m.Cut(1)
	write(t, m, 3, 5)
	m.Write(1, 6)
	for a := range 4 {
		m.Write(a, 7)
		m.Read(a)
		m.Wear(a)
		m.Cut(a)
		m.Clone().Restore()
	}
	expectImage(t, m, 1, 2, 3, 5)
	m.Flip(2, 3)
	expectImage(t, m, 1, 2, 3^8, 5)
	m.Restore()
	for a, want := range []uint32{1, 2, 3 ^ 8, 5} {
		expectWord(t, m, a, want, api.OK)
	}
	write(t, m, 1, 9)
	expectImage(t, m, 1, 9, 3^8, 5)
}

// The rule 'Objects': nil, and memories that were not made by the package.

func TestNoMemory(t *testing.T) {
	for _, m := range []*cell.Memory{nil, {}, new(cell.Memory)} {
		m.Restore()
		for _, a := range append(outside(1), 0, 1) {
			expectWord(t, m, a, 0, api.ErrNil)
			expect(t, "Write", m.Write(a, 1), api.ErrNil)
			expect(t, "Cut", m.Cut(a), api.ErrNil)
			expect(t, "Flip", m.Flip(a, a), api.ErrNil)
			if m.Wear(a) != 0 {
				t.Error(a, m.Wear(a))
			}
		}
		expectImage(t, m)
		expectCounts(t, m, 0, 0, false)
		if m.Words() != 0 || m.Clone() != nil {
			t.Error(m.Words())
		}
	}
}
