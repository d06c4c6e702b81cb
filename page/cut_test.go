package page_test

import (
	"bytes"
	"math/rand/v2"
	"slices"
	"testing"

	"smartcard/api"
	"smartcard/cell"
	"smartcard/page"
)

// P11.4

// expectOldOrNew checks that a page has its old or its new bytes, and the others have their old ones. It returns the bytes of all pages.
func expectOldOrNew(t *testing.T, p *page.Pages, i int, old [][]byte, new []byte) [][]byte {
	t.Helper()
	b, e := p.Read(i)
	if e != api.OK || !bytes.Equal(b, old[i]) && !bytes.Equal(b, new) {
		t.Fatalf("page %d: %x and %d, neither %x nor %x", i, b, e, old[i], new)
	}
	l := slices.Clone(old)
	l[i] = b
	expectPages(t, p, l)
	return l
}

// cutEverywhere cuts the power before each write of a call of Write, each time on a clone.
func cutEverywhere(t *testing.T, m *cell.Memory, i int, old [][]byte, new []byte) {
	t.Helper()
	for n := 0; ; n++ {
		m := m.Clone()
		p := opened(t, m)
		m.Cut(n)
		e := p.Write(i, new)
		if e == api.OK {
			expectOldOrNew(t, p, i, old, new)
			if b, _ := p.Read(i); !bytes.Equal(b, new) {
				t.Error("not the new bytes after", n)
			}
			if n < api.PageBytes/4 {
				t.Error("a page cannot be written with", n, "words")
			}
			return
		}
		if e != api.ErrPower {
			t.Fatal("Write with a cut:", n, e)
		}
		expectRead(t, "after the cut", p, i, api.ErrPower)
		m.Restore()
		expect(t, "Write after the cut", p.Write(i, new), api.ErrPower)
		l := expectOldOrNew(t, opened(t, m), i, old, new)
		expectPages(t, opened(t, m), l)         // it does not change any more
		expectPages(t, openCut(t, m, n%7), l)   // also if Open is interrupted
		goOn(t, m, l, (i+n)%len(l), content(n)) // and the next Write is all right
	}
}

// goOn writes a page of a memory after a cut, and then others, too.
func goOn(t *testing.T, m *cell.Memory, l [][]byte, i int, b []byte) {
	t.Helper()
	p := opened(t, m)
	l = slices.Clone(l)
	for k := range 4 {
		l[(i+k)%len(l)] = b
		write(t, p, (i+k)%len(l), b)
		expectPages(t, p, l)
	}
	expectPages(t, opened(t, m), l)
}

func TestCutOfTheFirstWrite(t *testing.T) {
	for _, words := range []int{240, 264, 400} {
		m := memory(t, words, forever)
		for _, i := range []int{0, 5, words/24 - 1} {
			cutEverywhere(t, m, i, zeros(words/24), content(3))
		}
	}
}

func TestCutOfAWrite(t *testing.T) {
	for _, words := range []int{240, 264, 400} {
		m := memory(t, words, forever)
		p := opened(t, m)
		l := fill(t, p)
		for n := range 300 { // more often than it takes until a page is moved, too
			if n%23 == 0 || n > 290 {
				cutEverywhere(t, m, n%3, l, content(n+100))
				cutEverywhere(t, m, len(l)-1, l, content(n+200))
			}
			l[n%2] = content(n)
			write(t, p, n%2, l[n%2])
		}
	}
}

// TestManyCuts also cuts the power several times in a row, in Open and in Write.
func TestManyCuts(t *testing.T) {
	for seed := range uint64(40) {
		r := rand.New(rand.NewPCG(4, seed))
		m := memory(t, 240+r.IntN(300), forever)
		p := opened(t, m)
		want := zeros(p.Count())
		few := 1 + r.IntN(len(want))
		for n := range 600 {
			i, b := r.IntN(few), content(n)
			if r.IntN(3) == 0 {
				m.Cut(r.IntN(60))
			}
			switch e := p.Write(i, b); e {
			case api.OK:
				want[i] = b
				m.Restore()
			case api.ErrPower:
				m.Restore()
				p = openCut(t, m, r.IntN(100))
				want = expectOldOrNew(t, p, i, want, b)
			default:
				t.Fatal(e)
			}
			if n%50 == 0 {
				expectPages(t, p, want)
				few = 1 + r.IntN(len(want))
			}
		}
		expectPages(t, p, want)
		expectPages(t, opened(t, m), want)
	}
}
