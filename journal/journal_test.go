package journal_test

import (
	"bytes"
	"math"
	"testing"

	"smartcard/api"
	"smartcard/cell"
	"smartcard/journal"
	"smartcard/page"
)

const forever = 1 << 40 // an endurance that no test reaches

// memory returns a new memory of a number of pages.
func memory(t *testing.T, count int) *cell.Memory {
	t.Helper()
	m, e := cell.New(api.MemoryConfig{Words: 24 * count, Endurance: forever})
	if e != api.OK {
		t.Fatal(count, e)
	}
	return m
}

// pages returns the pages of a memory.
func pages(t *testing.T, m *cell.Memory) *page.Pages {
	t.Helper()
	p, e := page.Open(m)
	if e != api.OK {
		t.Fatal("page.Open:", e)
	}
	return p
}

// on returns the journal on pages.
func on(t *testing.T, p *page.Pages) *journal.Journal {
	t.Helper()
	j, e := journal.Open(p)
	if e != api.OK || j == nil {
		t.Fatal("Open:", e)
	}
	return j
}

// opened returns the journal on the pages of a memory.
func opened(t *testing.T, m *cell.Memory) *journal.Journal {
	t.Helper()
	return on(t, pages(t, m))
}

// pattern returns n bytes, which differ for different seeds.
func pattern(seed, n int) []byte {
	b := make([]byte, n)
	for i := range b {
		b[i] = byte(seed*31 + i*seed + i>>8 + i + 1)
	}
	return b
}

// changed returns a space after changes: the definition of what Apply does.
func changed(space []byte, l []api.Change) []byte {
	b := bytes.Clone(space)
	for _, c := range l {
		for i, x := range c.Data {
			b[c.Off+i] = x
		}
	}
	return b
}

// apply makes changes, which has to succeed.
func apply(t *testing.T, j *journal.Journal, l ...api.Change) {
	t.Helper()
	if e := j.Apply(l); e != api.OK {
		t.Fatal("Apply:", e)
	}
}

// expect checks the result of a call that returns an error only.
func expect(t *testing.T, name string, got, want api.Errno) {
	t.Helper()
	if got != want {
		t.Errorf("%s: %d instead of %d", name, got, want)
	}
}

// expectSpace checks all bytes of the space.
func expectSpace(t *testing.T, j *journal.Journal, want []byte) {
	t.Helper()
	if j.Size() != len(want) {
		t.Fatal("Size:", j.Size(), len(want))
	}
	if b, e := j.Read(0, len(want)); e != api.OK || !bytes.Equal(b, want) {
		t.Fatalf("space: %x and %d instead of %x", b, e, want)
	}
}

// expectRead checks an error of Read, with which there are no bytes.
func expectRead(t *testing.T, name string, j *journal.Journal, off, n int, want api.Errno) {
	t.Helper()
	if b, e := j.Read(off, n); e != want || len(b) > 0 {
		t.Errorf("%s: Read of %d from %d: %x and %d instead of %d", name, n, off, b, e, want)
	}
}

// cutNow cuts the power of a memory.
func cutNow(t *testing.T, m *cell.Memory) {
	t.Helper()
	m.Cut(0)
	if e := m.Write(0, 0); e != api.ErrPower {
		t.Fatal("the power is not cut:", e)
	}
}

// outside are places that are not within a space of size bytes: offsets and numbers.
func outside(size int) [][2]int {
	return [][2]int{
		{-1, 0}, {-1, 1}, {0, size + 1}, {size, 1}, {size - 1, 2}, {size + 1, 0}, {-size, size},
		{math.MaxInt, 1}, {math.MaxInt, 0}, {math.MinInt, 0}, {math.MinInt, 1}, {1 << 32, 1}, {-1 << 32, 1}, {math.MaxInt - 1, 2},
	}
}

// P12.1

func TestOpen(t *testing.T) {
	for _, count := range []int{10, 31, 32, 33, 40, 100, 2730} {
		m := memory(t, count)
		j := opened(t, m)
		want := make([]byte, 48*max(0, count-32))
		expectSpace(t, j, want)
		for i := 0; i+40 <= len(want); i += 391 {
			l := []api.Change{{Off: i, Data: pattern(i, 40)}}
			want = changed(want, l)
			apply(t, j, l...)
		}
		for range 3 {
			expectSpace(t, opened(t, m), want)
		}
	}
}

func TestOpenErrors(t *testing.T) {
	check := func(name string, p *page.Pages, want api.Errno) {
		t.Helper()
		if j, e := journal.Open(p); e != want || j != nil {
			t.Errorf("%s: %d instead of %d", name, e, want)
		}
	}
	check("nil", nil, api.ErrNil)
	check("not returned by Open", &page.Pages{}, api.ErrNil)
	for _, count := range []int{10, 40} {
		m := memory(t, count)
		p := pages(t, m)
		cutNow(t, m)
		check("without power", p, api.ErrPower)
		m.Restore()
		check("not alive", p, api.ErrPower)
		on(t, pages(t, m))
	}
}

func TestOpenOfPagesThatCannotBeRead(t *testing.T) {
	m := memory(t, 40)
	p := pages(t, m)
	for i := range 40 {
		p.Write(i, make([]byte, api.PageBytes))
	}
	for a := range m.Words() {
		m.Flip(a, 1)
		m.Flip(a, 2)
	}
	if j, e := journal.Open(p); e != api.OK && (e != api.ErrCorrupt || j != nil) {
		t.Error(e)
	}
}

// TestOpenOfOtherPages opens pages that no journal has written: there is no promise, but that it returns.
func TestOpenOfOtherPages(t *testing.T) {
	contents := [][]byte{make([]byte, 46), pattern(1, 46), bytes.Repeat([]byte{0, 0, 0, 1}, 12)[:46], bytes.Repeat([]byte{0, 0, 0, 40, 0, 9}, 8)[:46], bytes.Repeat([]byte{0xff}, 46)}
	for _, count := range []int{10, 32, 33, 40} {
		for _, b := range contents {
			for n := 0; n < 2000; n += 1 + n/100*19 {
				p := pages(t, memory(t, count))
				for i := range count {
					p.Write(i, append([]byte{byte(n >> 8), byte(n)}, b...))
				}
				if j, e := journal.Open(p); (e != api.OK || j == nil) && (e != api.ErrCorrupt || j != nil) {
					t.Error(count, n, e)
				}
			}
		}
	}
}

// P12.2

func TestSize(t *testing.T) {
	for count, want := range map[int]int{10: 0, 31: 0, 32: 0, 33: 48, 34: 96, 40: 384, 2730: 48 * 2698} {
		m := memory(t, count)
		j := opened(t, m)
		if j.Size() != want {
			t.Error(count, j.Size(), want)
		}
		cutNow(t, m)
		if j.Size() != want {
			t.Error("without power", count, j.Size(), want)
		}
	}
}

func TestAlive(t *testing.T) {
	m := memory(t, 40)
	p := pages(t, m)
	j := on(t, p)
	m.Cut(5)
	if !j.Alive() {
		t.Error("a cut that is pending is none")
	}
	expect(t, "Apply", j.Apply([]api.Change{{Off: 3, Data: []byte{1}}}), api.ErrPower)
	if j.Alive() {
		t.Error("without power")
	}
	m.Restore()
	if j.Alive() {
		t.Error("the power was cut")
	}
	if !opened(t, m).Alive() {
		t.Error("opened again")
	}
}

func TestJournalThatOpenDidNotReturn(t *testing.T) {
	for _, j := range []*journal.Journal{nil, {}} {
		for _, x := range append(outside(48), [2]int{0, 0}, [2]int{0, 1}) {
			expectRead(t, "not returned by Open", j, x[0], x[1], api.ErrNil)
			expect(t, "Apply", j.Apply([]api.Change{{Off: x[0], Data: []byte{1}}}), api.ErrNil)
		}
		expect(t, "Apply of nothing", j.Apply(nil), api.ErrNil)
		expect(t, "Apply of much", j.Apply([]api.Change{{Data: make([]byte, 2000)}}), api.ErrNil)
		if j.Size() != 0 || j.Alive() {
			t.Error(j.Size(), j.Alive())
		}
	}
}

// P12.3

func TestRead(t *testing.T) {
	j := opened(t, memory(t, 36))
	want := pattern(3, 4*48)
	apply(t, j, api.Change{Off: 0, Data: want})
	for off := range len(want) + 1 {
		for n := range len(want) - off + 1 {
			b, e := j.Read(off, n)
			if e != api.OK || !bytes.Equal(b, want[off:off+n]) {
				t.Fatal(off, n, b, e)
			}
		}
	}
	for _, x := range append(outside(len(want)), [2]int{0, -1}, [2]int{5, -1}, [2]int{0, math.MinInt}, [2]int{0, math.MaxInt}, [2]int{7, math.MaxInt}, [2]int{len(want), math.MaxInt}, [2]int{-5, 10}, [2]int{10, -5}, [2]int{math.MaxInt, math.MaxInt}) {
		expectRead(t, "outside", j, x[0], x[1], api.ErrRange)
	}
	b, _ := j.Read(40, 20)
	clear(b)
	expectSpace(t, j, want)
}

func TestReadOfNothing(t *testing.T) {
	for _, count := range []int{10, 32} {
		m := memory(t, count)
		j := opened(t, m)
		if b, e := j.Read(0, 0); e != api.OK || len(b) > 0 {
			t.Error(b, e)
		}
		expectRead(t, "no space", j, 0, 1, api.ErrRange)
		expectRead(t, "no space", j, 1, 0, api.ErrRange)
		cutNow(t, m)
		expectRead(t, "no power", j, 0, 0, api.ErrPower)
		expectRead(t, "no power", j, 0, 1, api.ErrPower)
	}
}

func TestReadWithoutPower(t *testing.T) {
	m := memory(t, 40)
	j := opened(t, m)
	cutNow(t, m)
	for range 2 {
		for _, x := range append(outside(384), [2]int{0, 0}, [2]int{0, 1}, [2]int{0, 384}) {
			expectRead(t, "not alive", j, x[0], x[1], api.ErrPower)
		}
		m.Restore()
	}
}

// P12.4

func TestApplyExamples(t *testing.T) {
	j := opened(t, memory(t, 40))
	if j.Size() != 384 {
		t.Error(j.Size())
	}
	want := make([]byte, 384)
	copy(want, []byte{1, 9, 3})
	apply(t, j, api.Change{Off: 0, Data: []byte{1, 2, 3}}, api.Change{Off: 1, Data: []byte{9}})
	expectSpace(t, j, want)
	apply(t, j, api.Change{Off: 382, Data: []byte{1, 2}})
	want[382], want[383] = 1, 2
	expectSpace(t, j, want)
	expect(t, "not within", j.Apply([]api.Change{{Off: 5, Data: []byte{7}}, {Off: 383, Data: []byte{1, 2}}}), api.ErrRange)
	expectSpace(t, j, want)
}

func TestApplyEverywhere(t *testing.T) {
	for n := range 120 {
		j := opened(t, memory(t, 36))
		want := make([]byte, 192)
		for off := 0; off+n <= len(want); off++ {
			l := []api.Change{{Off: off, Data: pattern(off+n, n)}}
			want = changed(want, l)
			apply(t, j, l...)
			if b, e := j.Read(0, 192); e != api.OK || !bytes.Equal(b, want) {
				t.Fatal(off, n, e)
			}
		}
	}
}

func TestApplyInOrder(t *testing.T) {
	j := opened(t, memory(t, 40))
	want := pattern(1, 384)
	apply(t, j, api.Change{Off: 0, Data: want})
	lists := [][]api.Change{
		{{Off: 40, Data: pattern(2, 20)}, {Off: 45, Data: pattern(3, 10)}},                                   // within the first
		{{Off: 45, Data: pattern(4, 10)}, {Off: 40, Data: pattern(5, 20)}},                                   // all of the first
		{{Off: 90, Data: pattern(6, 60)}, {Off: 140, Data: pattern(7, 60)}, {Off: 95, Data: pattern(8, 60)}}, // over the ends
		{{Off: 5, Data: []byte{1}}, {Off: 5, Data: []byte{2}}, {Off: 5, Data: []byte{3}}},
		{{Off: 300, Data: []byte{1}}, {Off: 5, Data: []byte{2}}, {Off: 300, Data: []byte{3}}, {Off: 5, Data: []byte{4}}},
		{{Off: 300, Data: []byte{1}}, {Off: 384}, {Off: 0}, {Off: 17, Data: []byte{}}, {Off: 200, Data: []byte{3}}},
	}
	for _, l := range lists {
		want = changed(want, l)
		apply(t, j, l...)
		expectSpace(t, j, want)
	}
}

func TestApplyOfNothing(t *testing.T) {
	for _, count := range []int{10, 32, 33, 40} {
		m := memory(t, count)
		j := opened(t, m)
		want := make([]byte, j.Size())
		if len(want) > 0 {
			want[7] = 1
			apply(t, j, api.Change{Off: 7, Data: []byte{1}})
		}
		apply(t, j)
		apply(t, j, []api.Change{}...)
		apply(t, j, api.Change{}, api.Change{Off: j.Size(), Data: []byte{}})
		expect(t, "behind the space", j.Apply([]api.Change{{Off: j.Size() + 1}}), api.ErrRange)
		expectSpace(t, j, want)
		expectSpace(t, opened(t, m), want)
		cutNow(t, m)
		expect(t, "without power", j.Apply(nil), api.ErrPower)
	}
}

func TestApplyOutside(t *testing.T) {
	m := memory(t, 40)
	j := opened(t, m)
	want := pattern(1, 384)
	apply(t, j, api.Change{Off: 0, Data: want})
	for _, x := range outside(384) {
		bad := api.Change{Off: x[0], Data: pattern(9, x[1])}
		good := api.Change{Off: 100, Data: pattern(8, 30)}
		expect(t, "outside", j.Apply([]api.Change{bad}), api.ErrRange)
		expect(t, "outside, at the end", j.Apply([]api.Change{good, bad}), api.ErrRange)
		expect(t, "outside, at the start", j.Apply([]api.Change{bad, good}), api.ErrRange)
		expectSpace(t, j, want)
	}
	expectSpace(t, opened(t, m), want)
	small := opened(t, memory(t, 32))
	expect(t, "no space", small.Apply([]api.Change{{Off: 0, Data: []byte{1}}}), api.ErrRange)
}

// repeated returns a change several times.
func repeated(c api.Change, n int) []api.Change {
	var l []api.Change
	for range n {
		l = append(l, c)
	}
	return l
}

func TestWeight(t *testing.T) {
	m := memory(t, 80)
	j := opened(t, m)
	want := pattern(1, j.Size())
	for off := 0; off < len(want); off += 1000 {
		n := min(1000, len(want)-off)
		apply(t, j, api.Change{Off: off, Data: want[off : off+n]})
	}
	expectSpace(t, j, want)
	good := [][]api.Change{
		{{Off: 100, Data: pattern(2, 1016)}}, // a weight of 1024
		{{Off: 1, Data: pattern(3, 508)}, {Off: 1000, Data: pattern(4, 500)}},
		repeated(api.Change{Off: 47, Data: []byte{1, 2}}, 102),
		repeated(api.Change{Off: 47}, 128),
		append(repeated(api.Change{Off: 47}, 127), api.Change{Off: 5}),
	}
	for k := range 102 { // as many pages as possible: some of them twice
		good[2][k].Off = 47 + k%46*48
	}
	for _, l := range good {
		want = changed(want, l)
		apply(t, j, l...)
		expectSpace(t, j, want)
		expectSpace(t, opened(t, m), want)
	}
	bad := [][]api.Change{
		{{Off: 100, Data: pattern(2, 1017)}}, // a weight of 1025
		{{Off: 0, Data: pattern(2, 2304)}},
		{{Off: 1, Data: pattern(3, 509)}, {Off: 1000, Data: pattern(4, 500)}},
		repeated(api.Change{Off: 47, Data: []byte{1, 2}}, 103),
		repeated(api.Change{Off: 47}, 129),
		repeated(api.Change{Off: 0, Data: pattern(2, 2304)}, 1000),
	}
	for _, l := range bad {
		expect(t, "too heavy", j.Apply(l), api.ErrBuffer)
		expect(t, "too heavy, and outside", j.Apply(append(l, api.Change{Off: -1})), api.ErrRange)
		expect(t, "outside, and too heavy", j.Apply(append([]api.Change{{Off: 2304, Data: []byte{1}}}, l...)), api.ErrRange)
		expectSpace(t, j, want)
	}
	expectSpace(t, opened(t, m), want)
	cutNow(t, m)
	for _, l := range append(bad, append(good, []api.Change{{Off: -1}})...) {
		expect(t, "without power", j.Apply(l), api.ErrPower)
	}
	m.Restore()
	expect(t, "not alive", j.Apply(good[0]), api.ErrPower)
	expectSpace(t, opened(t, m), want)
}

func TestArgumentsAreNotKept(t *testing.T) {
	j := opened(t, memory(t, 40))
	whole := pattern(1, 100)
	l := []api.Change{{Off: 30, Data: whole[:60]}, {Off: 200, Data: whole[60:90]}}
	want := changed(make([]byte, 384), l)
	apply(t, j, l...)
	if !bytes.Equal(whole, pattern(1, 100)) || l[0].Off != 30 || l[1].Off != 200 || len(l[0].Data) != 60 {
		t.Error("the argument has changed")
	}
	clear(whole)
	expectSpace(t, j, want)
}

// flipTwo makes two bits of each word wrong that a page needs, which is found by trying.
func flipTwo(m *cell.Memory, broken func(c *cell.Memory) bool) {
	for a := range m.Words() {
		c := m.Clone()
		c.Flip(a, 4)
		c.Flip(a, 9)
		if broken(c) {
			m.Flip(a, 4)
			m.Flip(a, 9)
			return
		}
	}
}

// TestApplyToAPageThatCannotBeRead is about a memory that is not good.
func TestApplyToAPageThatCannotBeRead(t *testing.T) {
	m := memory(t, 40)
	want := pattern(1, 384)
	apply(t, opened(t, m), api.Change{Off: 0, Data: want})
	flipTwo(m, func(c *cell.Memory) bool {
		p, e := page.Open(c)
		if e != api.OK {
			return false
		}
		j, e := journal.Open(p)
		if e != api.OK {
			return false
		}
		_, e = j.Read(100, 1)
		return e == api.ErrCorrupt
	})
	j := opened(t, m)
	expectRead(t, "with wrong bits", j, 0, 384, api.ErrCorrupt)
	expectRead(t, "with wrong bits", j, 100, 10, api.ErrCorrupt)
	expect(t, "with wrong bits", j.Apply([]api.Change{{Off: 10, Data: []byte{1}}, {Off: 100, Data: []byte{2}}}), api.ErrCorrupt)
	for _, x := range [][2]int{{0, 96}, {144, 240}} { // nothing has changed
		if b, e := j.Read(x[0], x[1]); e != api.OK || !bytes.Equal(b, want[x[0]:x[0]+x[1]]) {
			t.Error(x, b, e)
		}
	}
	apply(t, j, api.Change{Off: 0, Data: want[:96]}, api.Change{Off: 144, Data: want[:240]})
	if b, e := j.Read(144, 240); e != api.OK || !bytes.Equal(b, want[:240]) {
		t.Error("another page:", b, e)
	}
}
