package page_test

import (
	"bytes"
	"math/rand/v2"
	"testing"

	"smartcard/api"
	"smartcard/cell"
	"smartcard/page"
)

// flipAll makes one bit of each word wrong.
func flipAll(m *cell.Memory, bit func(a int) int) {
	for a := range m.Words() {
		m.Flip(a, bit(a))
	}
}

// P11.5

func TestOneWrongBitOfEachWord(t *testing.T) {
	for bit := range 32 {
		m := memory(t, 264, forever)
		opened(t, m)
		flipAll(m, func(int) int { return bit })
		p := opened(t, m)
		expectPages(t, p, zeros(11))
		l := fill(t, p)
		expectPages(t, p, l)
		m = memory(t, 264, forever)
		p = opened(t, m)
		l = fill(t, p)
		flipAll(m, func(a int) int { return (a + bit) % 32 })
		expectPages(t, p, l)
		p = opened(t, m)
		expectPages(t, p, l)
		for n := range 200 {
			l[n%3] = content(n)
			write(t, p, n%3, l[n%3])
			expectPages(t, p, l)
		}
		expectPages(t, opened(t, m), l)
		for _, i := range outside(11) {
			expectRead(t, "outside", p, i, api.ErrRange)
			expect(t, "outside", p.Write(i, content(1)), api.ErrRange)
		}
	}
}

func TestEachWrongBit(t *testing.T) {
	m := memory(t, 240, forever)
	p := opened(t, m)
	l := fill(t, p)
	for n := range 100 { // some frames hold bytes that do not count any more
		l[n%4] = content(n)
		write(t, p, n%4, l[n%4])
	}
	for a := range 240 {
		for bit := range 32 {
			m.Flip(a, bit)
			expectPages(t, opened(t, m), l)
			m.Flip(a, bit)
		}
	}
}

// TestGoodMemory also exceeds the endurance of words, so that one bit of each is always wrong.
func TestGoodMemory(t *testing.T) {
	for _, endurance := range []int{1, 2, 20, forever} {
		for seed := range uint64(10) {
			r := rand.New(rand.NewPCG(5, seed))
			m := memory(t, 240+r.IntN(200), endurance)
			p := opened(t, m)
			want := zeros(p.Count())
			for n := range 300 {
				i, b := r.IntN(len(want)), content(n)
				if r.IntN(10) == 0 {
					m.Cut(r.IntN(60))
				}
				switch e := p.Write(i, b); e {
				case api.OK:
					want[i] = b
					m.Restore()
				case api.ErrPower:
					m.Restore()
					p = opened(t, m)
					want = expectOldOrNew(t, p, i, want, b)
				default:
					t.Fatal(e)
				}
			}
			expectPages(t, p, want)
			if endurance == forever {
				flipAll(m, func(int) int { return r.IntN(32) })
			}
			expectPages(t, opened(t, m), want)
		}
	}
}

// flipTwo makes two bits of a word wrong.
func flipTwo(r *rand.Rand, m *cell.Memory, a int) {
	first := r.IntN(32)
	m.Flip(a, first)
	m.Flip(a, (first+1+r.IntN(31))%32)
}

// expectRightOrCorrupt checks that pages which can be read have the right bytes, and returns how many these are.
func expectRightOrCorrupt(t *testing.T, p *page.Pages, want [][]byte) int {
	t.Helper()
	right := 0
	for i := range want {
		b, e := p.Read(i)
		switch {
		case e == api.OK && !bytes.Equal(b, want[i]):
			t.Fatalf("page %d: wrong bytes %x instead of %x", i, b, want[i])
		case e == api.OK:
			right++
		case e != api.ErrCorrupt || len(b) > 0:
			t.Fatal(i, b, e)
		}
	}
	return right
}

func TestTwoWrongBitsOfAWord(t *testing.T) {
	r := rand.New(rand.NewPCG(2, 2))
	m := memory(t, 240, forever)
	p := opened(t, m)
	l := fill(t, p)
	for n := range 50 {
		l[n%4] = content(n)
		write(t, p, n%4, l[n%4])
	}
	for a := range 240 {
		for range 20 {
			c := m.Clone()
			p := opened(t, c)
			flipTwo(r, c, a)
			if expectRightOrCorrupt(t, p, l) < len(l)-1 {
				t.Error("one word is of more than one page:", a)
			}
			if q, e := page.Open(c); e == api.OK {
				expectRightOrCorrupt(t, q, l)
			} else if e != api.ErrCorrupt || q != nil {
				t.Fatal(e)
			}
		}
	}
}

// TestBadMemory makes up to two bits of many words wrong, again and again, and goes on.
func TestBadMemory(t *testing.T) {
	seen := map[string]int{}
	for seed := range uint64(200) {
		r := rand.New(rand.NewPCG(6, seed))
		m := memory(t, 240+r.IntN(300), forever)
		p := opened(t, m)
		want := fill(t, p)
		for n := range r.IntN(400) {
			want[n%3] = content(n)
			write(t, p, n%3, want[n%3])
		}
		for _, a := range r.Perm(m.Words())[:1+r.IntN(30)] {
			flipTwo(r, m, a)
		}
		for n := range 100 {
			i, b := r.IntN(len(want)), content(n+7)
			switch e := p.Write(i, b); e {
			case api.OK:
				want[i] = b
				seen["written"]++
			case api.ErrCorrupt:
				seen["not written"]++
			default:
				t.Fatal(e)
			}
			right := expectRightOrCorrupt(t, p, want)
			seen["right"] += right
			seen["corrupt"] += len(want) - right
		}
		q, e := page.Open(m)
		switch e {
		case api.OK:
			expectRightOrCorrupt(t, q, want)
			seen["opened"]++
		case api.ErrCorrupt:
			seen["not opened"]++
		default:
			t.Fatal(e)
		}
	}
	if seen["corrupt"] == 0 || seen["right"] == 0 || seen["written"] == 0 {
		t.Error(seen)
	}
}

// TestAPageThatCannotBeRead is about the others, which are still written, and moved.
func TestAPageThatCannotBeRead(t *testing.T) {
	m := memory(t, 264, forever)
	p := opened(t, m)
	l := fill(t, p)
	r := rand.New(rand.NewPCG(3, 3))
	for a := range m.Words() {
		c := m.Clone()
		q := opened(t, c)
		flipTwo(r, c, a)
		if _, e := q.Read(4); e == api.ErrCorrupt { // the word belongs to this page
			flipTwo(r, m, a)
			break
		}
	}
	expectRead(t, "with wrong bits", p, 4, api.ErrCorrupt)
	for n := range 1000 {
		i := n % 3
		l[i] = content(n)
		write(t, p, i, l[i])
		if expectRightOrCorrupt(t, p, l) != len(l)-1 {
			t.Fatal("another page cannot be read")
		}
	}
	expectRead(t, "with wrong bits, again", p, 4, api.ErrCorrupt)
	write(t, p, 4, l[4])
	expectPages(t, p, l)
	expectPages(t, opened(t, m), l)
}

// P11.6

func TestFixedOfAPerfectMemory(t *testing.T) {
	m := memory(t, 264, forever)
	p := opened(t, m)
	for n := range 500 {
		write(t, p, n*n%11, content(n))
		p.Read(n % 11)
		if n%50 == 0 {
			m.Cut(n % 19)
			p.Write(n%11, content(n))
			m.Restore()
			p = opened(t, m)
		}
		if p.Fixed() != 0 {
			t.Fatal(n, p.Fixed())
		}
	}
}

func TestFixed(t *testing.T) {
	m := memory(t, 240, forever)
	p := opened(t, m)
	fill(t, p)
	flipAll(m, func(a int) int { return a % 32 })
	for i := range 10 { // each read page has at least 16 words
		before := p.Fixed()
		p.Read(i)
		if n := p.Fixed() - before; n < 16 || n > 24 {
			t.Error("Fixed by a Read:", n)
		}
	}
	before := p.Fixed()
	expectRead(t, "outside", p, 10, api.ErrRange)
	if p.Count(); p.Fixed() != before {
		t.Error("nothing was read")
	}
	if q := opened(t, m); q.Fixed() == 0 || p.Fixed() != before {
		t.Error("Fixed of pages that were opened later:", q.Fixed(), p.Fixed(), before)
	}
	cutNow(t, m)
	if p.Fixed() != before {
		t.Error("without power:", p.Fixed(), before)
	}
}

func TestFixedOfOneWord(t *testing.T) {
	m := memory(t, 240, forever)
	l := fill(t, opened(t, m))
	counted := 0
	for a := range 240 {
		m.Flip(a, a%32)
		p := opened(t, m)
		expectPages(t, p, l)
		if n := p.Fixed(); n < 0 || n > 2 {
			t.Error("Fixed with one wrong word:", a, n)
		} else if n > 0 {
			counted++
		}
		m.Flip(a, a%32)
	}
	if counted < 10*16 {
		t.Error("words that are read:", counted)
	}
}
