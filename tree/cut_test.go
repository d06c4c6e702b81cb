package tree_test

import (
	"math/rand/v2"
	"testing"

	"smartcard/api"
	"smartcard/cell"
	"smartcard/filehead"
	"smartcard/tree"
	"smartcard/vault"
)

// equals reports whether a tree has the files of a model.
func equals(x *tree.Tree, m *model) bool {
	if x.Count() != len(m.heads) {
		return false
	}
	for h, f := range m.heads {
		dir, _ := x.Parent(h)
		if got, ok := x.Header(h); !ok || !filehead.Same(got, f) || dir != m.parent(h) {
			return false
		}
	}
	return true
}

// restored opens the files of a memory after a cut, and returns which of two models they are.
func restored(t *testing.T, mem *cell.Memory, before, after *model) (*vault.Vault, *tree.Tree, *model) {
	t.Helper()
	mem.Restore()
	v := mounted(t, mem)
	x := opened(t, v)
	if equals(x, after) {
		return v, x, after
	}
	if !equals(x, before) {
		t.Fatal("neither before nor after")
	}
	return v, x, before
}

// step makes a call on the model, and returns the same call of a tree, and what it has to return.
type step func(m *model) (call, int, api.Errno)

// P16.10, and P3

// cutCalls makes calls on the tree of a memory, with a cut before each write, each time on a clone of the memory. The calls happen in a transaction, or one of them outside. It returns the model after the calls, and the number of writes.
func cutCalls(t *testing.T, mem *cell.Memory, m *model, within bool, steps ...step) (*model, int) {
	t.Helper()
	for n := 0; ; n++ {
		c := mem.Clone()
		v := mounted(t, c)
		x, after := opened(t, v), m.copied()
		c.Cut(n)
		if within {
			expect(t, "Begin", v.Begin(), api.OK)
		}
		start, e := c.Writes(), api.OK
		for _, s := range steps {
			f, h, want := s(after)
			var got int
			if got, e = f(x); e != api.ErrPower {
				expect(t, "a call", e, want)
			} else if h = 0; within {
				t.Fatal("a call in a transaction has written something")
			}
			if got != h {
				t.Fatal("a call returns", got, "and not", h)
			}
		}
		if within {
			e = v.Commit()
		}
		if e != api.ErrPower {
			expectFiles(t, x, after)
			restored(t, c, after, after)
			return after, c.Writes() - start
		}
		expectUnusable(t, x, api.ErrPower)
		if y, e := tree.Open(v); y != nil || e != api.ErrPower {
			t.Fatal("Open without power:", e)
		}
		_, y, state := restored(t, c, m, after)
		expectUnusable(t, x, api.ErrPower)
		expectGoingOn(t, y, state.copied(), n)
	}
}

// expectGoingOn makes other calls after a cut.
func expectGoingOn(t *testing.T, x *tree.Tree, m *model, seed int) {
	t.Helper()
	r := rand.New(rand.NewPCG(uint64(seed), 1))
	for range 3 {
		c, h, e := randomCall(r, m)
		expectCall(t, x, c, h, e)
	}
	expectFiles(t, x, m)
}

func creating(dir int, f api.File) step {
	return func(m *model) (call, int, api.Errno) {
		h, e := m.create(dir, f)
		return func(x *tree.Tree) (int, api.Errno) { return x.Create(dir, f) }, h, e
	}
}

func removing(h int) step {
	return func(m *model) (call, int, api.Errno) {
		e := m.remove(h)
		return func(x *tree.Tree) (int, api.Errno) { return 0, x.Remove(h) }, 0, e
	}
}

func changing(h, op int) step {
	return func(m *model) (call, int, api.Errno) {
		e := m.setState(h, op)
		return func(x *tree.Tree) (int, api.Errno) { return 0, x.SetState(h, op) }, 0, e
	}
}

func TestCutsOfCalls(t *testing.T) {
	mem, v := created(t, 60*24)
	x, m := opened(t, v), newModel()
	for _, s := range []step{
		creating(1, directory(0x5000, "abc")),
		creating(2, binary(1, 2)),
		creating(2, linear(2)),
		changing(4, api.OpActivate),
		changing(1, api.OpDeactivate),
		removing(3),
		creating(1, binary(7, 0)),
		removing(4),
		removing(2),
	} {
		after, writes := cutCalls(t, mem, m, false, s)
		if writes < 20 {
			t.Error("only", writes, "writes")
		}
		c, h, e := s(m)
		expectCall(t, x, c, h, e)
		expectFiles(t, x, after)
	}
}

func TestCutsOfTransactions(t *testing.T) {
	mem, v := created(t, 60*24)
	x, m := opened(t, v), newModel()
	for _, l := range [][]step{
		{creating(1, directory(0x5000, "abc")), creating(2, binary(1, 2)), creating(2, linear(2))},
		{removing(3), changing(4, api.OpActivate), creating(1, directory(1, "")), creating(3, binary(5, 6))},
		{removing(4), removing(5), removing(3), removing(2), changing(1, api.OpTerminate)},
	} {
		after, _ := cutCalls(t, mem, m, true, l...)
		expect(t, "Begin", v.Begin(), api.OK)
		for _, s := range l {
			c, h, e := s(m)
			expectCall(t, x, c, h, e)
		}
		expect(t, "Commit", v.Commit(), api.OK)
		expectFiles(t, x, after)
	}
}

// TestCutsOfRemove is about a file with a content: both items are gone afterwards, or none.
func TestCutsOfRemove(t *testing.T) {
	mem, v := created(t, 60*24)
	x := opened(t, v)
	create(t, x, 1, binary(1, 2), 2)
	expect(t, "Put", v.Put(514, []byte{1, 2}), api.OK)
	for n := 0; ; n++ {
		c := mem.Clone()
		v := mounted(t, c)
		x := opened(t, v)
		c.Cut(n)
		e := x.Remove(2)
		c.Restore()
		v = mounted(t, c)
		x = opened(t, v)
		_, content := v.Get(514)
		if content != (x.Count() == 2) || e == api.OK && content {
			t.Fatal("the content remains:", content, "and the number of files is", x.Count())
		}
		if e == api.OK {
			return
		}
		expect(t, "Remove", e, api.ErrPower)
	}
}

// TestCutsOfOpen is about a new vault.
func TestCutsOfOpen(t *testing.T) {
	mem, _ := created(t, 60*24)
	for n := 0; ; n++ {
		c := mem.Clone()
		v := mounted(t, c)
		c.Cut(n)
		x, e := tree.Open(v)
		if e != api.OK && (e != api.ErrPower || x != nil) {
			t.Fatal("Open with a cut:", e)
		}
		c.Restore()
		w := mounted(t, c)
		if l := w.IDs(); len(l) > 1 || e == api.OK && len(l) == 0 {
			t.Fatal("the items are", l)
		}
		expectFiles(t, opened(t, w), newModel())
		if e == api.OK {
			return
		}
	}
}

// TestModelWithCuts makes random calls, in transactions and outside, some with cuts.
func TestModelWithCuts(t *testing.T) {
	cuts := 0
	for seed := range uint64(6) {
		r := rand.New(rand.NewPCG(seed, 3))
		mem, v := created(t, 8192)
		x, m := opened(t, v), newModel()
		durable := m.copied() // before the current transaction
		for range 250 {
			if r.IntN(3) == 0 {
				mem.Cut(r.IntN(100))
			}
			e := anyCall(t, r, v, x, m)
			mem.Restore()
			switch {
			case e == api.ErrPower:
				expectUnusable(t, x, api.ErrPower)
				v, x, m = restored(t, mem, durable, m)
				m, durable = m.copied(), m.copied()
				cuts++
			case !v.Active():
				durable = m.copied()
			}
			expectFiles(t, x, m)
		}
	}
	if cuts < 50 {
		t.Error("only", cuts, "cuts")
	}
}

// anyCall makes a random call of a tree, or begins or commits a transaction.
func anyCall(t *testing.T, r *rand.Rand, v *vault.Vault, x *tree.Tree, m *model) api.Errno {
	t.Helper()
	switch n := r.IntN(20); {
	case n < 3 && !v.Active():
		return v.Begin()
	case n < 3:
		return v.Commit()
	}
	c, h, want := randomCall(r, m)
	got, e := c(x)
	if e != api.ErrPower && (e != want || got != h) {
		t.Fatal("a call returns", got, e, "and not", h, want)
	}
	return e
}
