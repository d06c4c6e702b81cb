package cell_test

import (
	"math/rand/v2"
	"testing"

	"smartcard/api"
	"smartcard/cell"
)

// The kinds of what changed a memory.
const (
	written = iota
	flipped
	torn
)

// event is something that changed a memory.
type event struct {
	kind, word int
	value      uint32 // the bits that are inverted, if it is flipped
}

// model is a memory as the list of all that changed it, from which everything that can be seen follows.
type model struct {
	size, endurance int
	events          []event
	off             bool
	cutAt           int // the number of writes before the pending cut; -1: none
}

// count returns how many events of a kind there are; with a word, only its own.
func (m *model) count(kind, word int) int {
	n := 0
	for _, x := range m.events {
		if x.kind == kind && (word < 0 || x.word == word) {
			n++
		}
	}
	return n
}

// has reports whether there is a word.
func (m *model) has(a int) bool { return 0 <= a && a < m.size }

// word returns the value of a word.
func (m *model) word(a int) uint32 {
	value, wear := uint32(0), 0
	for _, x := range m.events {
		switch {
		case x.word != a:
		case x.kind == flipped:
			value ^= x.value
		case x.kind == written:
			wear++
			value = x.value
			if wear > m.endurance {
				value ^= 1 << (a & 31)
			}
		}
	}
	return value
}

func (m *model) read(a int) (uint32, api.Errno) {
	switch {
	case m.off:
		return 0, api.ErrPower
	case !m.has(a):
		return 0, api.ErrRange
	}
	return m.word(a), api.OK
}

func (m *model) write(a int, v uint32) api.Errno {
	if _, e := m.read(a); e != api.OK {
		return e
	}
	if m.cutAt == m.count(written, -1) {
		m.off = true
		m.events = append(m.events, event{torn, -1, 0})
		return api.ErrPower
	}
	m.events = append(m.events, event{written, a, v})
	return api.OK
}

func (m *model) cut(n int) api.Errno {
	switch {
	case m.off:
		return api.ErrPower
	case n < 0:
		return api.ErrRange
	}
	m.cutAt = m.count(written, -1) + n
	return api.OK
}

func (m *model) flip(a, bit int) api.Errno {
	if !m.has(a) || bit < 0 || bit > 31 {
		return api.ErrRange
	}
	m.events = append(m.events, event{flipped, a, 1 << bit})
	return api.OK
}

// clone returns a copy that has nothing in common with the model.
func (m *model) clone() *model {
	c := *m
	c.events = append([]event(nil), m.events...)
	return &c
}

// compare checks that all that can be seen without a change is the same.
func compare(t *testing.T, m *cell.Memory, x *model) {
	t.Helper()
	want := make([]uint32, x.size)
	for a := range x.size {
		want[a] = x.word(a)
		if m.Wear(a) != x.count(written, a) {
			t.Fatalf("wear of %d: %d", a, m.Wear(a))
		}
	}
	for _, a := range []int{-1, 0, x.size - 1, x.size} {
		v, e := x.read(a)
		expectWord(t, m, a, v, e)
	}
	expectImage(t, m, want...)
	expectCounts(t, m, x.count(written, -1), x.count(torn, -1), !x.off)
	if t.Failed() {
		t.FailNow()
	}
}

// pair is a memory, and the model that it has to follow.
type pair struct {
	m *cell.Memory
	x *model
}

// step makes a random call of both.
func (p pair) step(t *testing.T, r *rand.Rand) {
	t.Helper()
	a := r.IntN(p.x.size+2) - 1
	switch r.IntN(10) {
	case 0:
		n := r.IntN(6) - 1
		expect(t, "Cut", p.m.Cut(n), p.x.cut(n))
	case 1:
		p.m.Restore()
		p.x.off, p.x.cutAt = false, -1
	case 2:
		bit := r.IntN(34) - 1
		expect(t, "Flip", p.m.Flip(a, bit), p.x.flip(a, bit))
	default:
		v := r.Uint32()
		expect(t, "Write", p.m.Write(a, v), p.x.write(a, v))
	}
}

// P9.1 to P9.8

func TestModel(t *testing.T) {
	for seed := range uint64(60) {
		r := rand.New(rand.NewPCG(9, seed))
		size, endurance := 1+r.IntN(40), 1+r.IntN(6)
		l := []pair{{made(t, size, endurance), &model{size: size, endurance: endurance, cutAt: -1}}}
		for n := range 300 {
			p := l[r.IntN(len(l))]
			p.step(t, r)
			compare(t, p.m, p.x)
			if n%90 == 89 {
				l = append(l, pair{p.m.Clone(), p.x.clone()})
			}
		}
		for _, p := range l {
			compare(t, p.m, p.x)
		}
	}
}
