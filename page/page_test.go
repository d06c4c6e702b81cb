package page_test

import (
	"bytes"
	"math"
	"math/rand/v2"
	"slices"
	"testing"

	"smartcard/api"
	"smartcard/cell"
	"smartcard/ecc"
	"smartcard/page"
)

const forever = 1 << 40 // an endurance that no test reaches

// memory returns a new memory.
func memory(t *testing.T, words, endurance int) *cell.Memory {
	t.Helper()
	m, e := cell.New(api.MemoryConfig{Words: words, Endurance: endurance})
	if e != api.OK {
		t.Fatal(words, endurance, e)
	}
	return m
}

// opened returns the pages of a memory, which have to be all right.
func opened(t *testing.T, m *cell.Memory) *page.Pages {
	t.Helper()
	p, e := page.Open(m)
	if e != api.OK || p == nil {
		t.Fatal("Open:", e)
	}
	return p
}

// content returns bytes of a page that differ for different numbers.
func content(n int) []byte {
	b := make([]byte, api.PageBytes)
	for i := range b {
		b[i] = byte(n*37 + i*n + i + n>>8)
	}
	return b
}

// zeros returns the bytes of count new pages.
func zeros(count int) [][]byte {
	l := make([][]byte, count)
	for i := range l {
		l[i] = make([]byte, api.PageBytes)
	}
	return l
}

// write writes a page, which has to succeed.
func write(t *testing.T, p *page.Pages, i int, b []byte) {
	t.Helper()
	if e := p.Write(i, b); e != api.OK {
		t.Fatal("Write of", i, e)
	}
}

// fill writes all pages, and returns their bytes.
func fill(t *testing.T, p *page.Pages) [][]byte {
	t.Helper()
	l := zeros(p.Count())
	for i := range l {
		l[i] = content(i + 1)
		write(t, p, i, l[i])
	}
	return l
}

// expect checks the result of a call that returns an error only.
func expect(t *testing.T, name string, got, want api.Errno) {
	t.Helper()
	if got != want {
		t.Errorf("%s: %d instead of %d", name, got, want)
	}
}

// expectRead checks an error of Read, with which there are no bytes.
func expectRead(t *testing.T, name string, p *page.Pages, i int, want api.Errno) {
	t.Helper()
	b, e := p.Read(i)
	if e != want || len(b) > 0 {
		t.Errorf("%s: %x and %d instead of %d", name, b, e, want)
	}
}

// expectPages checks the bytes of all pages.
func expectPages(t *testing.T, p *page.Pages, want [][]byte) {
	t.Helper()
	if p.Count() != len(want) {
		t.Fatal("Count:", p.Count(), len(want))
	}
	for i := range want {
		if b, e := p.Read(i); e != api.OK || !bytes.Equal(b, want[i]) {
			t.Fatalf("page %d: %x and %d instead of %x", i, b, e, want[i])
		}
	}
}

// cutNow cuts the power of a memory.
func cutNow(t *testing.T, m *cell.Memory) {
	t.Helper()
	m.Cut(0)
	if e := m.Write(0, 0); e != api.ErrPower || m.Power() {
		t.Fatal("the power is not cut:", e)
	}
}

// outside are numbers that are none of count pages.
func outside(count int) []int {
	return []int{-1, count, count + 1, -count, 1 << 32, -1 << 32, math.MaxInt, math.MinInt}
}

// P11.1

func TestOpen(t *testing.T) {
	for _, words := range []int{240, 241, 263, 264, 265, 1000, 65535, api.MaxWords} {
		m := memory(t, words, forever)
		p := opened(t, m)
		expectPages(t, p, zeros(words/24))
		l := fill(t, p)
		expectPages(t, p, l)
		for range 3 {
			expectPages(t, opened(t, m), l)
		}
		expectPages(t, opened(t, m.Clone()), l)
	}
}

func TestOpenErrors(t *testing.T) {
	check := func(name string, m *cell.Memory, want api.Errno) {
		t.Helper()
		if p, e := page.Open(m); e != want || p != nil {
			t.Errorf("%s: %d instead of %d", name, e, want)
		}
	}
	check("nil", nil, api.ErrNil)
	check("not created by New", &cell.Memory{}, api.ErrNil)
	for _, words := range []int{1, 2, 100, 239} {
		m := memory(t, words, forever)
		check("too small", m, api.ErrArg)
		cutNow(t, m)
		check("too small, without power", m, api.ErrPower)
		m.Restore()
		check("too small again", m, api.ErrArg)
	}
	m := memory(t, 240, forever)
	write(t, opened(t, m), 3, content(1))
	cutNow(t, m)
	check("without power", m, api.ErrPower)
	m.Restore()
	want := zeros(10)
	want[3] = content(1)
	expectPages(t, opened(t, m), want)
}

// openCut opens pages while a cut after n writes is pending, and again after the power was restored.
func openCut(t *testing.T, m *cell.Memory, n int) *page.Pages {
	t.Helper()
	m.Cut(n)
	if p, e := page.Open(m); (e != api.OK || p == nil) && (e != api.ErrPower || p != nil || m.Power()) {
		t.Fatal("Open with a pending cut:", n, e)
	}
	m.Restore()
	return opened(t, m)
}

func TestOpenWithACut(t *testing.T) {
	for n := range 500 {
		m := memory(t, 240, forever)
		p := openCut(t, m, n)
		expectPages(t, p, zeros(10))
		expectPages(t, openCut(t, m, n/2), zeros(10))
	}
	for n := range 101 {
		m := memory(t, 265, forever)
		l := fill(t, opened(t, m))
		expectPages(t, openCut(t, m, n), l)
		m.Cut(n % 23)
		if opened(t, m).Write(1, l[1]) != api.ErrPower {
			m.Restore()
		}
		m.Restore()
		expectPages(t, openCut(t, m, n), l)
		expectPages(t, openCut(t, m, 0), l)
	}
}

func TestOpenOfADamagedMemory(t *testing.T) {
	for seed := range uint64(300) {
		r := rand.New(rand.NewPCG(11, seed))
		m := memory(t, 240, forever)
		fill(t, opened(t, m))
		for range r.IntN(2000) {
			m.Flip(r.IntN(240), r.IntN(32))
		}
		p, e := page.Open(m)
		if e != api.OK && (e != api.ErrCorrupt || p != nil) {
			t.Fatal(e)
		}
		if e == api.OK {
			p.Read(r.IntN(10))
			p.Write(r.IntN(10), content(1))
		}
	}
}

// TestOpenOfOtherWords opens a memory of good words that no pages have written: there is no promise, but that it returns.
func TestOpenOfOtherWords(t *testing.T) {
	for data := range 40 {
		x, _ := ecc.Encode(data)
		m := memory(t, 240, forever)
		for a := range 240 {
			m.Write(a, x)
		}
		if p, e := page.Open(m); (e != api.OK || p == nil) && (e != api.ErrCorrupt || p != nil) {
			t.Error(e)
		}
	}
}

// P11.2

func TestCount(t *testing.T) {
	for _, words := range []int{240, 263, 264, 287, 288, 1000, 16384, 65535, api.MaxWords} {
		m := memory(t, words, forever)
		p := opened(t, m)
		if p.Count() != words/24 {
			t.Error(words, p.Count())
		}
		cutNow(t, m)
		if p.Count() != words/24 {
			t.Error("without power", words, p.Count())
		}
	}
}

func TestAlive(t *testing.T) {
	m := memory(t, 240, forever)
	p := opened(t, m)
	write(t, p, 0, content(1))
	m.Cut(10000)
	if !p.Alive() {
		t.Error("a cut that is pending is none")
	}
	m.Restore()
	if !p.Alive() {
		t.Error("the power was not cut")
	}
	m.Cut(3)
	expect(t, "Write", p.Write(1, content(2)), api.ErrPower)
	if p.Alive() {
		t.Error("without power")
	}
	m.Restore()
	if p.Alive() {
		t.Error("the power was cut since Open")
	}
	q := opened(t, m)
	if !q.Alive() || p.Alive() {
		t.Error("opened again", q.Alive(), p.Alive())
	}
	cutNow(t, m)
	m.Restore()
	if q.Alive() {
		t.Error("cut by another write")
	}
}

func TestPagesThatOpenDidNotReturn(t *testing.T) {
	for _, p := range []*page.Pages{nil, {}} {
		for _, i := range []int{-1, 0, 1} {
			expectRead(t, "Read", p, i, api.ErrNil)
			expect(t, "Write", p.Write(i, content(1)), api.ErrNil)
			expect(t, "Write of too few bytes", p.Write(i, nil), api.ErrNil)
		}
		if p.Count() != 0 || p.Fixed() != 0 || p.Alive() {
			t.Error(p.Count(), p.Fixed(), p.Alive())
		}
	}
}

// P11.3

func TestReadAndWriteExample(t *testing.T) {
	p := opened(t, memory(t, 240, forever))
	if p.Count() != 10 {
		t.Error(p.Count())
	}
	write(t, p, 3, content(7))
	want := zeros(10)
	want[3] = content(7)
	expectPages(t, p, want)
	expectRead(t, "page 10", p, 10, api.ErrRange)
	expect(t, "47 bytes", p.Write(3, content(7)[:47]), api.ErrArg)
	expectPages(t, p, want)
}

func TestReadAndWriteErrors(t *testing.T) {
	m := memory(t, 264, forever)
	p := opened(t, m)
	l := fill(t, p)
	sizes := []int{0, 1, 47, 49, 96, 1000}
	for _, i := range outside(11) {
		expectRead(t, "outside", p, i, api.ErrRange)
		expect(t, "outside", p.Write(i, content(1)), api.ErrRange)
	}
	for _, n := range sizes {
		for _, i := range append(outside(11), 0, 10) {
			expect(t, "not a page", p.Write(i, make([]byte, n)), api.ErrArg)
		}
	}
	expectPages(t, p, l)
	cutNow(t, m)
	check := func() {
		t.Helper()
		for _, i := range append(outside(11), 0, 10) {
			expectRead(t, "not alive", p, i, api.ErrPower)
			expect(t, "not alive", p.Write(i, content(1)), api.ErrPower)
			for _, n := range sizes {
				expect(t, "not alive, and not a page", p.Write(i, make([]byte, n)), api.ErrArg)
			}
		}
	}
	check()
	m.Restore()
	writes := m.Writes()
	check()
	if m.Writes() != writes {
		t.Error("pages that are not alive have written")
	}
	expectPages(t, opened(t, m), l)
}

func TestBytesAreNotShared(t *testing.T) {
	p := opened(t, memory(t, 240, forever))
	whole := content(5)
	b := whole[:api.PageBytes:api.PageBytes]
	write(t, p, 2, b)
	if !bytes.Equal(b, content(5)) {
		t.Error("the argument has changed")
	}
	clear(b)
	for _, i := range []int{2, 3} {
		want, _ := p.Read(i)
		got, _ := p.Read(i)
		got[0] ^= 0xff
		if again, _ := p.Read(i); !bytes.Equal(again, want) {
			t.Error("the result is shared:", i)
		}
	}
	if got, _ := p.Read(2); !bytes.Equal(got, content(5)) {
		t.Error("the argument is kept")
	}
	behind := append(content(6), 1, 2, 3)
	write(t, p, 2, behind[:api.PageBytes])
	if !slices.Equal(behind[api.PageBytes:], []byte{1, 2, 3}) {
		t.Error("what is behind the argument has changed")
	}
}

func TestPagesOpenedTwice(t *testing.T) {
	m := memory(t, 240, forever)
	p := opened(t, m)
	q := opened(t, m)
	want := zeros(10)
	for n := range 300 { // the earlier ones may be used as long as the later ones are not written to
		want[n%7] = content(n)
		write(t, p, n%7, want[n%7])
		if n%5 == 0 {
			expectPages(t, q, want)
		}
	}
	expectPages(t, q, want)
	for n := range 300 {
		want[n%10] = content(n + 1)
		write(t, q, n%10, want[n%10])
	}
	expectPages(t, q, want)
	expectPages(t, opened(t, m), want)
}

// P11.9

func TestModel(t *testing.T) {
	for _, words := range []int{240, 263, 264, 313, 1000, 5000} {
		r := rand.New(rand.NewPCG(9, uint64(words)))
		m := memory(t, words, forever)
		p := opened(t, m)
		want := zeros(p.Count())
		few := 1 + r.IntN(p.Count()) // pages that are written in this phase
		for n := range 3000 {
			i := r.IntN(few)
			want[i] = content(n)
			write(t, p, i, want[i])
			if b, e := p.Read(i); e != api.OK || !bytes.Equal(b, want[i]) {
				t.Fatalf("page %d: %x and %d instead of %x", i, b, e, want[i])
			}
			if n%100 == 0 {
				expectPages(t, p, want)
				few = 1 + r.IntN(p.Count())
			}
			if r.IntN(50) == 0 {
				p = opened(t, m)
			}
		}
		expectPages(t, p, want)
		expectPages(t, opened(t, m), want)
	}
}
