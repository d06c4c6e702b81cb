package page_test

import (
	"math/rand/v2"
	"testing"

	"smartcard/api"
	"smartcard/cell"
	"smartcard/page"
)

// expectWear checks the wear of all words.
func expectWear(t *testing.T, m *cell.Memory) {
	t.Helper()
	limit := 100 + 16*m.Writes()/m.Words()
	limit = min(limit, 100+16*(m.Writes()/m.Words())) // whichever of the two is meant
	for a := range m.Words() {
		if m.Wear(a) > limit {
			t.Fatalf("wear of the word %d: %d is more than %d, after %d writes of %d words", a, m.Wear(a), limit, m.Writes(), m.Words())
		}
	}
}

// pattern is an order in which pages are written: the page of a step, of count pages.
type pattern struct {
	name string
	page func(r *rand.Rand, step, count int) int
}

// patterns returns orders that wear out some frames more than others, if nothing is done.
func patterns() []pattern {
	return []pattern{
		{"always the same", func(_ *rand.Rand, _, _ int) int { return 0 }},
		{"always the last", func(_ *rand.Rand, _, count int) int { return count - 1 }},
		{"two in turn", func(_ *rand.Rand, step, _ int) int { return step % 2 }},
		{"all in turn", func(_ *rand.Rand, step, count int) int { return step % count }},
		{"each for a while", func(_ *rand.Rand, step, count int) int { return step / 50 % count }},
		{"any", func(r *rand.Rand, _, count int) int { return r.IntN(count) }},
		{"mostly one", func(r *rand.Rand, _, count int) int { return r.IntN(count) * (r.IntN(10) / 9) }},
	}
}

// wear is a memory that is worn out on purpose.
type wear struct {
	m      *cell.Memory
	p      *page.Pages
	done   int // completed writes
	cuts   int
	reopen int // after how many steps the pages are opened anew, 0: never
}

// write writes a page, perhaps with a cut.
func (w *wear) write(t *testing.T, i, cut int) {
	t.Helper()
	if cut >= 0 {
		w.m.Cut(cut)
	}
	e := w.p.Write(i, content(w.done))
	w.m.Restore()
	switch e {
	case api.OK:
		w.done++
	case api.ErrPower:
		w.cuts++
		w.p = opened(t, w.m)
	default:
		t.Fatal(e)
	}
}

// P11.7

func TestWear(t *testing.T) {
	for _, words := range []int{240, 246, 263, 264, 265, 360, 455, 2000} {
		for _, x := range patterns() {
			for _, reopen := range []int{0, 1, 7} {
				r := rand.New(rand.NewPCG(7, uint64(words)))
				w := &wear{m: memory(t, words, forever)}
				w.p = opened(t, w.m)
				fill(t, w.p)
				for step := range 5000 {
					w.write(t, x.page(r, step, w.p.Count()), -1)
					if reopen > 0 && step%reopen == 0 {
						w.p = opened(t, w.m)
					}
					if step%500 == 0 {
						expectWear(t, w.m)
					}
				}
				expectWear(t, w.m)
				if t.Failed() {
					t.Fatal(x.name, words, reopen)
				}
			}
		}
	}
}

func TestWearWithCuts(t *testing.T) {
	for _, words := range []int{240, 265, 1000, 16384} {
		for cut := range 45 { // always at the same place
			w := &wear{m: memory(t, words, forever)}
			w.p = opened(t, w.m)
			for step := range 3000 {
				at := -1
				if w.done/10 > w.cuts {
					at = cut
				}
				w.write(t, step%2, at)
			}
			expectWear(t, w.m)
		}
	}
}

// TestWearWithManyCutsInARow saves its cuts: they are at most one for every 10 writes, but all at the end.
func TestWearWithManyCutsInARow(t *testing.T) {
	for _, words := range []int{240, 5000, 40000} {
		for _, cut := range []int{0, 1, 2, 3, 10, 18, 19} {
			w := &wear{m: memory(t, words, forever)}
			w.p = opened(t, w.m)
			for range 3000 {
				w.write(t, 0, -1)
			}
			for range 300 {
				w.write(t, 0, cut)
			}
			expectWear(t, w.m)
		}
	}
}

// TestWearByAGreedyAdversary writes the page that wears out one word the most.
func TestWearByAGreedyAdversary(t *testing.T) {
	for _, words := range []int{240, 265} {
		m := memory(t, words, forever)
		p := opened(t, m)
		fill(t, p)
		for step := range 1500 {
			best, choice := -1, 0
			for k := range p.Count() {
				i := (k + step) % p.Count()
				c := m.Clone()
				write(t, opened(t, c), i, content(step))
				if c.Wear(0) > best {
					best, choice = c.Wear(0), i
				}
			}
			write(t, p, choice, content(step))
			expectWear(t, m)
		}
	}
}

// TestWearIsEven is about pages that are never written again: also their words take part.
func TestWearIsEven(t *testing.T) {
	m := memory(t, 1000, forever)
	p := opened(t, m)
	fill(t, p)
	for n := range 20000 {
		write(t, p, 0, content(n))
	}
	average := m.Writes() / m.Words()
	idle := 0 // words that hardly ever change, or lie behind all others
	for a := range m.Words() {
		if m.Wear(a) < average/2 {
			idle++
		}
		if m.Wear(a) > 3*average {
			t.Error("wear:", a, m.Wear(a), average)
		}
	}
	if idle > m.Words()/10 {
		t.Error("words that do not take part:", idle)
	}
}

// P11.8

func TestWork(t *testing.T) {
	for _, words := range []int{240, 265, 1000, api.MaxWords} {
		m := memory(t, words, forever)
		p := opened(t, m)
		for a := range words {
			if m.Wear(a) > 2 {
				t.Fatal("the first Open has written", a, m.Wear(a))
			}
		}
		r := rand.New(rand.NewPCG(8, 8))
		for n := range 3000 {
			before := m.Writes()
			write(t, p, r.IntN(p.Count())*(n%2), content(n))
			if k := m.Writes() - before; k > 100 {
				t.Fatal("Write has written words:", k)
			}
			before = m.Writes()
			for i := range min(p.Count(), 20) {
				p.Read(i)
			}
			if m.Writes() != before {
				t.Fatal("Read has written")
			}
			if n%50 == 0 {
				if n%100 == 0 {
					m.Cut(r.IntN(40))
					p.Write(0, content(n))
					m.Restore()
				}
				before = m.Writes()
				p = opened(t, m)
				if k := m.Writes() - before; k > 100 {
					t.Fatal("Open has written words:", k)
				}
			}
		}
	}
}
