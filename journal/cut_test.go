package journal_test

import (
	"bytes"
	"math/rand/v2"
	"testing"

	"smartcard/api"
	"smartcard/cell"
	"smartcard/journal"
	"smartcard/page"
)

// openCut opens the pages and the journal while a cut is pending after n writes of the memory, and reports whether that succeeded. There is power afterwards.
func openCut(t *testing.T, m *cell.Memory, n int) bool {
	t.Helper()
	m.Cut(n)
	defer m.Restore()
	p, e := page.Open(m)
	if e == api.OK {
		var j *journal.Journal
		j, e = journal.Open(p)
		if (e == api.OK) == (j == nil) {
			t.Fatal(e, j)
		}
	}
	if e != api.OK && e != api.ErrPower {
		t.Fatal("Open with a cut:", e)
	}
	return e == api.OK
}

// space returns all bytes of the space of a memory, which has to be the old or the new one.
func space(t *testing.T, m *cell.Memory, old, new []byte) []byte {
	t.Helper()
	j := opened(t, m)
	b, e := j.Read(0, j.Size())
	if e != api.OK || !bytes.Equal(b, old) && !bytes.Equal(b, new) {
		t.Fatalf("neither before nor after: %d and\n%x\n%x\n%x", e, b, old, new)
	}
	return b
}

// cutOpen cuts the power before each write of Open, or some of them, each time on a clone, and also a second time.
func cutOpen(t *testing.T, m *cell.Memory, old, new []byte, step int) {
	t.Helper()
	for n := 0; ; n += step {
		c := m.Clone()
		done := openCut(t, c, n)
		if !done {
			openCut(t, c, n/2)
		}
		d := c.Clone()
		b := space(t, c, old, new)
		openCut(t, c, n%30) // once an Open has succeeded, it does not change any more
		expectSpace(t, opened(t, c), b)
		if done && !bytes.Equal(space(t, d, old, new), b) {
			t.Error("Open has changed the space")
		}
		if done {
			return
		}
	}
}

// cutApply cuts the power before each write of Apply, or some of them, each time on a clone. It returns how often the changes had happened nevertheless.
func cutApply(t *testing.T, m *cell.Memory, old []byte, l []api.Change, step int) int {
	t.Helper()
	new, happened := changed(old, l), 0
	for n := 0; ; n += step {
		c := m.Clone()
		j := opened(t, c)
		c.Cut(n)
		e := j.Apply(l)
		if e == api.OK {
			expectSpace(t, j, new)
			return happened
		}
		if e != api.ErrPower {
			t.Fatal("Apply with a cut:", n, e)
		}
		expectRead(t, "after the cut", j, 0, 1, api.ErrPower)
		c.Restore()
		expect(t, "Apply after the cut", j.Apply(l), api.ErrPower)
		expectRead(t, "not alive", j, 0, 1, api.ErrPower)
		if n%(3*step) == 0 {
			cutOpen(t, c, old, new, step)
		}
		b := space(t, c, old, new)
		if bytes.Equal(b, new) {
			happened++
		}
		goOn(t, c, b, n)
	}
}

// goOn makes other changes after a cut.
func goOn(t *testing.T, m *cell.Memory, want []byte, seed int) {
	t.Helper()
	j := opened(t, m)
	l := []api.Change{{Off: seed % 100, Data: pattern(seed, 60)}, {Off: 200 + seed%50, Data: pattern(seed, 3)}}
	want = changed(want, l)
	apply(t, j, l...)
	expectSpace(t, j, want)
	expectSpace(t, opened(t, m), want)
}

// P12.1 and P12.5

func TestCutOfApply(t *testing.T) {
	lists := [][]api.Change{
		{{Off: 10, Data: []byte{1}}},
		{{Off: 0, Data: pattern(2, 48)}},
		{{Off: 47, Data: []byte{1, 2}}},
		{{Off: 47, Data: pattern(3, 100)}, {Off: 300, Data: []byte{7}}, {Off: 60, Data: pattern(4, 5)}},
		{{Off: 0, Data: []byte{1}}, {Off: 383, Data: []byte{2}}},
		{{Off: 0, Data: pattern(5, 384)}, {Off: 0, Data: pattern(6, 384)}},
	}
	m := memory(t, 40)
	old := pattern(1, 384)
	apply(t, opened(t, m), api.Change{Off: 0, Data: old})
	happened := 0
	for _, l := range lists {
		happened += cutApply(t, m, old, l, 1)
		apply(t, opened(t, m), l...)
		old = changed(old, l)
	}
	if happened == 0 {
		t.Error("no changes have happened in spite of a cut: the tests of that have tested nothing")
	}
}

func TestCutOfTheGreatestApply(t *testing.T) {
	m := memory(t, 100)
	j := opened(t, m)
	var l []api.Change
	for i := range 102 {
		l = append(l, api.Change{Off: 47 + i%60*48, Data: pattern(i, 2)})
	}
	cutApply(t, m, make([]byte, j.Size()), l, 17)
	m = memory(t, 60)
	cutApply(t, m, make([]byte, 28*48), []api.Change{{Off: 30, Data: pattern(1, 1016)}}, 13)
}

// TestCutsInARow cuts Apply once, and then Open several times.
func TestCutsInARow(t *testing.T) {
	for seed := range uint64(60) {
		r := rand.New(rand.NewPCG(12, seed))
		m := memory(t, 40)
		old := pattern(1, 384)
		apply(t, opened(t, m), api.Change{Off: 0, Data: old})
		l := []api.Change{{Off: r.IntN(100), Data: pattern(2, 200)}, {Off: r.IntN(300), Data: pattern(3, 80)}}
		j := opened(t, m)
		m.Cut(r.IntN(400))
		if e := j.Apply(l); e == api.OK {
			old = changed(old, l)
		}
		m.Restore()
		for range 20 {
			if openCut(t, m, r.IntN(60)) {
				break
			}
		}
		b := space(t, m, old, changed(old, l))
		expectSpace(t, opened(t, m), b)
	}
}

// P12.5 and P12.6

// randomChanges returns changes within a space, which are not too heavy.
func randomChanges(r *rand.Rand, size int) []api.Change {
	var l []api.Change
	left := api.JournalBytes
	for range r.IntN(12) {
		n := min(r.IntN(1+r.IntN(400)), left-8, size)
		if n < 0 {
			break
		}
		l = append(l, api.Change{Off: r.IntN(size - n + 1), Data: pattern(r.IntN(1000), n)})
		left -= n + 8
	}
	return l
}

func TestModel(t *testing.T) {
	for seed := range uint64(30) {
		r := rand.New(rand.NewPCG(6, seed))
		m := memory(t, 33+r.IntN(40))
		p := pages(t, m)
		j := on(t, p)
		want := make([]byte, j.Size())
		for n := range 200 {
			l := randomChanges(r, len(want))
			after := changed(want, l)
			cut := r.IntN(4) == 0
			if cut {
				m.Cut(r.IntN(1000))
			}
			switch e := j.Apply(l); e {
			case api.OK:
				want = after
				m.Restore()
			case api.ErrPower:
				m.Restore()
				for range r.IntN(3) {
					openCut(t, m, r.IntN(300))
				}
				want = space(t, m, want, after)
				p = pages(t, m)
				j = on(t, p)
			default:
				t.Fatal(e)
			}
			if n%20 == 0 {
				expectSpace(t, j, want)
				j = on(t, p) // another one on the same pages
				expectSpace(t, j, want)
			}
		}
		expectSpace(t, opened(t, m), want)
	}
}

func TestTwoJournalsOnTheSamePages(t *testing.T) {
	p := pages(t, memory(t, 40))
	j := on(t, p)
	l := []api.Change{{Off: 40, Data: pattern(1, 50)}, {Off: 300, Data: pattern(2, 7)}}
	apply(t, j, l...)
	want := changed(make([]byte, 384), l)
	k := on(t, p)
	expectSpace(t, j, want)
	expectSpace(t, k, want)
}

// TestWrongBits is about a good memory: all is as in a perfect one.
func TestWrongBits(t *testing.T) {
	r := rand.New(rand.NewPCG(1, 1))
	m := memory(t, 45)
	j := opened(t, m)
	want := make([]byte, j.Size())
	for n := range 100 {
		l := randomChanges(r, len(want))
		want = changed(want, l)
		apply(t, j, l...)
		if n == 50 {
			for a := range m.Words() {
				m.Flip(a, r.IntN(32))
			}
		}
		expectSpace(t, j, want)
		expectSpace(t, opened(t, m), want)
	}
}
