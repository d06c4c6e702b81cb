package records_test

import (
	"math/rand/v2"
	"testing"

	"smartcard/api"
	"smartcard/cell"
	"smartcard/records"
	"smartcard/tree"
)

// mountedFiles opens the contents of a card again, with another tree.
func mountedFiles(t *testing.T, c *card) *records.Files {
	t.Helper()
	x, e := tree.Open(c.v)
	expect(t, "tree.Open", e, api.OK)
	f, e := records.Open(c.v, x)
	expect(t, "Open", e, api.OK)
	return f
}

// restored returns the card with a memory after a cut, and which of two models its contents are.
func restored(t *testing.T, mem *cell.Memory, before, after model) (*card, model) {
	t.Helper()
	mem.Restore()
	c := mounted(t, mem)
	got := contents(c.f)
	if got == contents(after) {
		return c, after
	}
	if got != contents(before) {
		t.Fatalf("the contents are\n%s\nneither those before nor those after", got)
	}
	return c, before
}

// P17.9, and P3

// cutCalls makes calls for the contents of a memory, with a cut before each write, each time on a clone of the memory. The calls happen in a transaction, or one of them outside. It returns the number of writes.
func cutCalls(t *testing.T, mem *cell.Memory, m model, within bool, calls ...call) int {
	t.Helper()
	for n := 0; ; n++ {
		c, after := mounted(t, mem.Clone()), m.copied()
		c.mem.Cut(n)
		if within {
			expect(t, "Begin", c.v.Begin(), api.OK)
		}
		start, e := c.mem.Writes(), api.OK
		for _, f := range calls {
			_, e = f(c.f)
			_, want := f(after)
			if e != api.ErrPower {
				expect(t, "a call", e, want)
			} else if within {
				t.Fatal("a call in a transaction has written something")
			}
		}
		if within {
			e = c.v.Commit()
		}
		if e != api.ErrPower {
			expectModel(t, c.f, after)
			restored(t, c.mem, after, after)
			return c.mem.Writes() - start
		}
		expectAll(t, c.f, 3, api.ErrArg, api.ErrPower)
		d, state := restored(t, c.mem, m, after)
		expectAll(t, c.f, 3, api.ErrArg, api.ErrPower)
		expectGoingOn(t, d, state.copied(), n)
	}
}

// expectGoingOn makes other calls after a cut.
func expectGoingOn(t *testing.T, c *card, m model, seed int) {
	t.Helper()
	r := rand.New(rand.NewPCG(uint64(seed), 1))
	for range 5 {
		onBoth(t, c.f, m, randomCall(r, m))
	}
	expectModel(t, c.f, m)
}

// changes returns calls that change a transparent file 2, and files with records of 2 bytes from 3 on.
func changes() []call {
	l := []call{
		func(f files) (string, api.Errno) { return shown(0, f.UpdateBinary(2, 0, []byte{1, 2, 3, 4, 5, 6, 7})) },
		func(f files) (string, api.Errno) { return shown(0, f.UpdateBinary(2, 2, []byte{9})) },
		func(f files) (string, api.Errno) { return shown(0, f.Erase(2, 1, 4)) },
	}
	for h := 3; h <= 5; h++ {
		for n := range 3 {
			l = append(l, func(f files) (string, api.Errno) { return shown(0, f.Append(h, []byte{byte(h), byte(n)})) })
		}
		l = append(l, func(f files) (string, api.Errno) { return shown(0, f.Update(h, 2, []byte{7, 7})) })
	}
	return l
}

// cutCard returns a card for these calls, whose vault is small, so that it has to be cleaned now and then.
func cutCard(t *testing.T) (*card, model) {
	t.Helper()
	c, m := newCard(t, 60*24), model{1: newFile(directory(0x3f00))}
	addFile(t, c, m, binary(2, 7))
	for i, kind := range listKinds {
		addFile(t, c, m, listed(3+i, kind, 2, 2))
	}
	return c, m
}

func TestCutsOfCalls(t *testing.T) {
	c, m := cutCard(t)
	for _, f := range changes() {
		_, e := f(m.copied())
		writes := cutCalls(t, c.mem, m, false, f)
		if e == api.OK && writes < 20 || e != api.OK && writes > 0 {
			t.Error(writes, "writes of a call that returns", e)
		}
		onBoth(t, c.f, m, f)
		expectModel(t, c.f, m)
	}
}

func TestCutsOfTransactions(t *testing.T) {
	c, m := cutCard(t)
	l := changes()
	for _, part := range [][]call{l[:5], l[5:10], l[10:], l} {
		cutCalls(t, c.mem, m, true, part...)
		expect(t, "Begin", c.v.Begin(), api.OK)
		for _, f := range part {
			onBoth(t, c.f, m, f)
		}
		expect(t, "Commit", c.v.Commit(), api.OK)
		expectModel(t, c.f, m)
	}
}

// TestModelWithCuts makes random calls, in transactions and outside, some with cuts.
func TestModelWithCuts(t *testing.T) {
	cuts := 0
	for seed := range uint64(8) {
		r := rand.New(rand.NewPCG(seed, 19))
		c, m := filled(t, r, 8192)
		durable := m.copied() // before the current transaction
		for range 300 {
			if r.IntN(3) == 0 {
				c.mem.Cut(r.IntN(100))
			}
			e := anyCall(t, r, c, m)
			c.mem.Restore()
			switch {
			case e == api.ErrPower:
				c, m = restored(t, c.mem, durable, m)
				m, durable = m.copied(), m.copied()
				cuts++
			case !c.v.Active():
				durable = m.copied()
			}
			expectModel(t, c.f, m)
		}
	}
	if cuts < 50 {
		t.Error("only", cuts, "cuts")
	}
}

// anyCall makes a random call, or begins or commits a transaction.
func anyCall(t *testing.T, r *rand.Rand, c *card, m model) api.Errno {
	t.Helper()
	switch n := r.IntN(20); {
	case n < 3 && !c.v.Active():
		return c.v.Begin()
	case n < 3:
		return c.v.Commit()
	}
	f := randomCall(r, m)
	want, wantE := f(m)
	got, e := f(c.f)
	if e != api.ErrPower && (e != wantE || got != want) {
		t.Fatal("a call returns", got, e, "and not", want, wantE)
	}
	return e
}
