package keys_test

import (
	"math/rand/v2"
	"testing"

	"smartcard/api"
	"smartcard/cell"
)

// step is a call of keys or of their vault, for a card and for the model.
type step struct {
	card  func(c *card) (string, api.Errno)
	model func(m *model) (string, api.Errno)
}

func calling(f call) step {
	return step{
		func(c *card) (string, api.Errno) { return f(c.k) },
		func(m *model) (string, api.Errno) { return f(m) },
	}
}

var (
	beginning = step{
		func(c *card) (string, api.Errno) { return "", c.v.Begin() },
		func(m *model) (string, api.Errno) { return "", m.begin() },
	}
	committing = step{
		func(c *card) (string, api.Errno) { return "", c.v.Commit() },
		func(m *model) (string, api.Errno) { return "", m.commit() },
	}
	aborting = step{
		func(c *card) (string, api.Errno) { return "", c.v.Abort() },
		func(m *model) (string, api.Errno) { return "", m.abort() },
	}
)

// restored returns the card with a memory after a cut, and the model of it, which has one of some states.
func restored(t *testing.T, mem *cell.Memory, l []state) (*card, *model) {
	t.Helper()
	mem.Restore()
	c := mounted(t, mem)
	got := contents(c.k)
	for _, s := range l {
		if m := (&model{states: []state{s}}); got == contents(m) {
			return c, m
		}
	}
	t.Fatalf("the keys are\n%s\nin none of the states %v", got, l)
	return nil, nil
}

// carryOut carries out steps on a card and on the model, until the power fails. It returns the states that the card may have then.
func carryOut(t *testing.T, c *card, m *model, l []step) ([]state, api.Errno) {
	t.Helper()
	for _, s := range l {
		before := len(m.states) - 1
		want, wantE := s.model(m)
		got, e := s.card(c)
		if e == api.ErrPower {
			if got != "" && got != "0" {
				t.Fatal("there is a result without power:", got)
			}
			return m.states[before:], e
		}
		if got != want || e != wantE {
			t.Fatal("a call returns", got, e, "and not", want, wantE)
		}
	}
	return m.states[len(m.states)-1:], api.OK
}

// cutSteps carries out steps with a cut before each write, each time on a clone of a memory. It returns the number of writes.
func cutSteps(t *testing.T, mem *cell.Memory, m *model, l ...step) int {
	t.Helper()
	for n := 0; ; n++ {
		c, after := mounted(t, mem.Clone()), m.copied()
		c.mem.Cut(n)
		start := c.mem.Writes()
		possible, e := carryOut(t, c, after, l)
		if e == api.OK {
			expectModel(t, c.k, after)
			restored(t, c.mem, possible)
			return c.mem.Writes() - start
		}
		expectUnusable(t, c.k, api.ErrArg, api.ErrPower)
		expectNoKeys(t, "a vault without power", c.v, api.ErrPower)
		d, state := restored(t, c.mem, possible)
		expectUnusable(t, c.k, api.ErrArg, api.ErrPower)
		r := rand.New(rand.NewPCG(uint64(n), 33))
		for range 5 {
			onBoth(t, d.k, state, randomCall(r))
		}
		expectModel(t, d.k, state)
	}
}

// cutCard returns a card whose vault is small, so that it has to be cleaned now and then, and the model.
func cutCard(t *testing.T) (*card, *model) {
	t.Helper()
	c, m := newCard(t, 60*24), newModel()
	carryOut(t, c, m, []step{calling(putting(keyOf(1, 1, 3))), calling(putting(keyOf(1, 2, 2))), calling(putting(keyOf(4, 6, 1)))})
	return c, m
}

// P22.7, P3 and P5

func TestCutsOfCalls(t *testing.T) {
	c, m := cutCard(t)
	for _, f := range []call{
		spending(1, 1), spending(1, 1), restoring(1, 1), spending(1, 2), spending(1, 2), restoring(1, 2), restoring(1, 2), spending(4, 6),
		putting(keyOf(1, 1, 5)), putting(keyOf(7, 1, 5)), putting(keyOf(4, 6, 2)), putting(api.Key{Set: 1, Kind: 2, Value: value(88), Limit: 9}),
		deleting(1), deleting(4), deleting(7),
	} {
		if writes := cutSteps(t, c.mem, m, calling(f)); writes < 10 {
			t.Error("only", writes, "writes")
		}
		onBoth(t, c.k, m, f)
		expectModel(t, c.k, m)
	}
}

// TestCutsOfErrors is about calls that fail and write nothing.
func TestCutsOfErrors(t *testing.T) {
	c, m := cutCard(t)
	onBoth(t, c.k, m, spending(4, 6))
	for _, f := range []call{spending(4, 6), spending(4, 5), restoring(4, 5), deleting(5), putting(keyOf(1, 7, 1))} {
		if writes := cutSteps(t, c.mem, m, calling(f)); writes > 0 {
			t.Error("a call that fails has written", writes, "words")
		}
	}
}

func TestCutsOfTransactions(t *testing.T) {
	c, m := cutCard(t)
	for _, l := range [][]step{
		{beginning, calling(spending(1, 1)), calling(putting(keyOf(1, 1, 9))), calling(spending(1, 2)), calling(putting(keyOf(7, 3, 2))), committing},
		{beginning, calling(deleting(1)), calling(spending(4, 6)), calling(putting(keyOf(1, 1, 3))), aborting, calling(spending(1, 1))},
		{beginning, calling(deleting(1)), calling(putting(keyOf(1, 3, 3))), calling(restoring(4, 6)), committing},
		{beginning, calling(deleting(7)), calling(deleting(1)), calling(spending(1, 3)), calling(deleting(4)), committing},
	} {
		cutSteps(t, c.mem, m, l...)
		carryOut(t, c, m, l)
		expectModel(t, c.k, m)
	}
}

// TestModelWithCuts makes random calls, in transactions and outside, some with cuts.
func TestModelWithCuts(t *testing.T) {
	cuts := 0
	for seed := range uint64(8) {
		r := rand.New(rand.NewPCG(seed, 34))
		c, m := newCard(t, 8192), newModel()
		for range 250 {
			if r.IntN(3) == 0 {
				c.mem.Cut(r.IntN(150))
			}
			s := calling(randomCall(r))
			switch n := r.IntN(20); {
			case n < 3 && !m.active:
				s = beginning
			case n < 2:
				s = committing
			case n < 3:
				s = aborting
			}
			possible, e := carryOut(t, c, m, []step{s})
			c.mem.Restore()
			if e == api.ErrPower {
				cuts++
				c, m = restored(t, c.mem, possible)
			}
			expectModel(t, c.k, m)
		}
	}
	if cuts < 50 {
		t.Error("only", cuts, "cuts")
	}
}

// P22.6 and P5

// spendAll spends the tries of a key, with transactions that are aborted, keys that are replaced or deleted and come back, and cuts. It returns how often Spend has succeeded.
func spendAll(t *testing.T, c *card, r *rand.Rand) (spent int) {
	t.Helper()
	for range 120 {
		if r.IntN(3) == 0 {
			c.mem.Cut(r.IntN(100))
		}
		switch n := r.IntN(10); {
		case n == 0:
			c.v.Begin()
		case n == 1:
			c.v.Abort()
		case n == 2:
			c.v.Back(r.IntN(1 + c.v.Save()))
		case n == 3 && c.v.Active():
			c.k.Put(keyOf(1, 1, 15))
		case n == 4 && c.v.Active():
			c.k.Delete(1)
		default:
			if _, e := c.k.Spend(1, 1); e == api.OK {
				spent++
			}
		}
		c.mem.Restore()
		if !c.v.Alive() || r.IntN(30) == 0 {
			c = mounted(t, c.mem)
		}
	}
	return spent
}

func TestNoExtraTry(t *testing.T) {
	all := 0
	for seed := range uint64(60) {
		r := rand.New(rand.NewPCG(seed, 35))
		limit := 1 + r.IntN(6)
		c := newCard(t, 4096)
		c.put(t, keyOf(1, 1, limit), api.OK)
		c.put(t, keyOf(1, 2, 5), api.OK)
		spent := spendAll(t, c, r)
		if spent > limit {
			t.Fatal("Spend has succeeded", spent, "times with the limit", limit)
		}
		all += spent
	}
	if all < 60 {
		t.Error("Spend has succeeded only", all, "times")
	}
}

// TestTriesBetweenRestores is about the tries between calls of Put and Restore.
func TestTriesBetweenRestores(t *testing.T) {
	c := cardWith(t, keyOf(1, 1, 4))
	for n := range 30 {
		if n%2 == 0 {
			c.restore(t, 1, 1, api.OK)
		} else {
			c.put(t, keyOf(1, 1, 4), api.OK)
		}
		c.begin(t)
		for left := 3; left >= n%4; left-- {
			c.spend(t, 1, 1, left, api.OK)
		}
		c.abort(t)
		c.get(t, keyOf(1, 1, 4), n%4)
	}
}
