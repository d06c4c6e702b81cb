package pin_test

import (
	"math/rand/v2"
	"testing"

	"smartcard/api"
	"smartcard/cell"
)

// step is a call of PINs or of their vault, for a card and for the model.
type step struct {
	card  func(c *card) (string, api.Errno)
	model func(m *model) (string, api.Errno)
}

func calling(f call) step {
	return step{
		func(c *card) (string, api.Errno) { return f(c.p) },
		func(m *model) (string, api.Errno) { return f(m) },
	}
}

var (
	beginning = step{
		func(c *card) (string, api.Errno) { return "", c.v.Begin() },
		func(m *model) (string, api.Errno) { return "", m.begin() },
	}
	committing = step{
		func(c *card) (string, api.Errno) { return "", c.v.Commit() },
		func(m *model) (string, api.Errno) { return "", m.commit() },
	}
	aborting = step{
		func(c *card) (string, api.Errno) { return "", c.v.Abort() },
		func(m *model) (string, api.Errno) { return "", m.abort() },
	}
)

// is reports whether the PINs of a memory are those of a state, with their values and unblocking codes.
func is(t *testing.T, mem *cell.Memory, s state) bool {
	t.Helper()
	m := &model{states: []state{s}}
	c := mounted(t, mem.Clone())
	if contents(c.p) != contents(m) {
		return false
	}
	for id, x := range s {
		if n, e := c.p.Verify(id, x.Value); x.tries > 0 && (n != x.Limit || e != api.OK) {
			return false
		}
		if n, e := c.p.Unblock(id, x.Unblock, x.Value); x.codeTries > 0 && (n != x.Limit || e != api.OK) {
			return false
		}
	}
	return true
}

// restored returns the card with a memory after a cut, the model of it, and which of some states it has.
func restored(t *testing.T, mem *cell.Memory, l []state) (*card, *model, int) {
	t.Helper()
	mem.Restore()
	for i, s := range l {
		if is(t, mem, s) {
			return mounted(t, mem), &model{states: []state{s}}, i
		}
	}
	t.Fatalf("the PINs are\n%s\nin none of the states %v", contents(mounted(t, mem).p), l)
	return nil, nil, 0
}

// carryOut carries out steps on a card and on the model, until the power fails. It returns the states that the card may have then.
func carryOut(t *testing.T, c *card, m *model, l []step) ([]state, api.Errno) {
	t.Helper()
	for _, s := range l {
		before := len(m.states) - 1
		want, wantE := s.model(m)
		got, e := s.card(c)
		if e == api.ErrPower {
			if got != "" && got != "0" {
				t.Fatal("there is a result without power:", got)
			}
			return m.states[before:], e
		}
		if got != want || e != wantE {
			t.Fatal("a call returns", got, e, "and not", want, wantE)
		}
	}
	return m.states[len(m.states)-1:], api.OK
}

// cutSteps carries out steps with a cut before each write, each time on a clone of a memory. It returns the number of writes, and how many different states the cuts have left.
func cutSteps(t *testing.T, mem *cell.Memory, m *model, l ...step) (writes, states int) {
	t.Helper()
	left := map[string]bool{}
	for n := 0; ; n++ {
		c, after := mounted(t, mem.Clone()), m.copied()
		c.mem.Cut(n)
		start := c.mem.Writes()
		possible, e := carryOut(t, c, after, l)
		if e == api.OK {
			expectModel(t, c.p, after)
			restored(t, c.mem, possible)
			return c.mem.Writes() - start, len(left)
		}
		expectUnusable(t, c.p, api.ErrPower)
		d, state, _ := restored(t, c.mem, possible)
		expectUnusable(t, c.p, api.ErrPower)
		left[contents(d.p)] = true
		r := rand.New(rand.NewPCG(uint64(n), 23))
		for range 5 {
			onBoth(t, d.p, state, randomCall(r, state))
		}
		expectModel(t, d.p, state)
	}
}

// cutCard returns a card whose vault is small, so that it has to be cleaned now and then, and the model.
func cutCard(t *testing.T) (*card, *model) {
	t.Helper()
	c, m := newCard(t, 60*24), newModel()
	carryOut(t, c, m, []step{calling(creating(example())), calling(creating(plain(2, 2, "a")))})
	return c, m
}

// P21.8, P3 and P5

func TestCutsOfCalls(t *testing.T) {
	c, m := cutCard(t)
	for _, x := range []struct {
		f      call
		states int // that cuts during the call can leave, as far as Info shows them
	}{
		{verifying(1, "x"), 2},
		{verifying(1, "x"), 2},
		{verifying(1, "1234"), 3},
		{verifying(1, "1234"), 2},
		{changing(1, "x", "5555"), 2},
		{changing(1, "1234", "5555"), 3},
		{changing(1, "5555", "1234"), 2},
		{unblocking(1, "x", "5555"), 2},
		{verifying(1, "x"), 2},
		{unblocking(1, "99", "5555"), 4},
		{setting(1, "66666666"), 1},
		{verifying(1, "x"), 2},
		{setting(1, "1234"), 2},
		{verifying(2, "b"), 2},
		{verifying(2, "b"), 2},
		{deleting(2), 2},
		{creating(plain(2, 3, "ab")), 2},
		{deleting(1), 2},
		{creating(example()), 2},
	} {
		_, states := cutSteps(t, c.mem, m, calling(x.f))
		if states < x.states-1 || states > x.states { // the last state is perhaps reached by the last write only
			t.Error("cuts have left", states, "states and not", x.states)
		}
		onBoth(t, c.p, m, x.f)
		expectModel(t, c.p, m)
	}
}

// TestCutsOfErrors is about calls that fail and write nothing.
func TestCutsOfErrors(t *testing.T) {
	c, m := cutCard(t)
	for _, f := range []call{verifying(2, "b"), verifying(2, "b"), unblocking(1, "", "5555"), unblocking(1, "", "5555")} {
		onBoth(t, c.p, m, f)
	}
	for _, f := range []call{
		verifying(2, "a"), changing(2, "a", "b"), unblocking(2, "a", "b"), unblocking(1, "99", "5555"), verifying(3, "a"),
		setting(1, "1"), changing(1, "1234", "1"), setting(0, "1"), deleting(3), creating(example()), creating(api.Pin{}),
	} {
		if writes, _ := cutSteps(t, c.mem, m, calling(f)); writes > 0 {
			t.Error("a call that fails has written", writes, "words")
		}
	}
}

func TestCutsOfTransactions(t *testing.T) {
	c, m := cutCard(t)
	for _, l := range [][]step{
		{beginning, calling(verifying(1, "x")), calling(setting(1, "5555")), calling(verifying(2, "b")), committing},
		{beginning, calling(verifying(1, "5555")), calling(deleting(1)), calling(creating(example())), aborting, calling(verifying(1, "x"))},
		{beginning, calling(changing(1, "5555", "7777")), calling(verifying(1, "7777")), calling(verifying(2, "a")), aborting},
		{beginning, calling(unblocking(1, "99", "8888")), calling(deleting(2)), calling(creating(plain(8, 4, "b"))), committing},
		{beginning, calling(deleting(8)), calling(unblocking(1, "98", "8888")), calling(verifying(1, "8888")), committing},
	} {
		cutSteps(t, c.mem, m, l...)
		carryOut(t, c, m, l)
		expectModel(t, c.p, m)
	}
}

// TestSpentBeforeComparison is about the document's sixth example: a cut before the first write spends nothing, and every guess that was found to be wrong has cost a try.
func TestSpentBeforeComparison(t *testing.T) {
	c := cardWith(t, example())
	for n := 0; ; n++ {
		d := mounted(t, c.mem.Clone())
		d.mem.Cut(n)
		left, e := d.p.Verify(1, []byte("x"))
		d.mem.Restore()
		d = mounted(t, d.mem)
		x, _ := d.p.Info(1)
		switch {
		case e == api.ErrWrong && left == 2 && x.Tries == 2:
			if n == 0 {
				t.Error("the comparison has written nothing")
			}
			return
		case e == api.ErrPower && left == 0 && (x.Tries == 2 || x.Tries == 3) && !(n == 0 && x.Tries == 2):
		default:
			t.Fatal("Verify returns", left, e, "and leaves", x.Tries)
		}
	}
}

// TestModelWithCuts makes random calls, in transactions and outside, some with cuts.
func TestModelWithCuts(t *testing.T) {
	cuts := 0
	for seed := range uint64(8) {
		r := rand.New(rand.NewPCG(seed, 24))
		c, m := newCard(t, 8192), newModel()
		for range 300 {
			if r.IntN(3) == 0 {
				c.mem.Cut(r.IntN(200))
			}
			s := calling(randomCall(r, m))
			switch n := r.IntN(20); {
			case n < 3 && !m.active:
				s = beginning
			case n < 2:
				s = committing
			case n < 3:
				s = aborting
			}
			possible, e := carryOut(t, c, m, []step{s})
			c.mem.Restore()
			if e == api.ErrPower {
				cuts++
				c, m, _ = restored(t, c.mem, possible)
			}
			expectModel(t, c.p, m)
		}
	}
	if cuts < 50 {
		t.Error("only", cuts, "cuts")
	}
}

// P21.9 and P5

// guessing makes wrong guesses, in transactions that are aborted, with values that are replaced and forgotten again, and with cuts. It returns how many comparisons with the value, and with the code, have returned ErrWrong.
func guessing(t *testing.T, c *card, r *rand.Rand) (values, codes int) {
	t.Helper()
	for range 150 {
		if r.IntN(3) == 0 {
			c.mem.Cut(r.IntN(150))
		}
		e := api.OK
		switch r.IntN(12) {
		case 0:
			c.v.Begin()
		case 1:
			c.v.Abort()
		case 2:
			c.v.Back(r.IntN(1 + c.v.Save()/2*2))
		case 3:
			if c.v.Active() {
				c.p.Set(1, []byte("5555"))
			}
		case 4:
			if c.v.Active() {
				c.p.Delete(1)
				c.p.Create(example())
			}
		case 5, 6:
			if _, e = c.p.Unblock(1, []byte("x"), []byte("5555")); e == api.ErrWrong {
				codes++
			}
		case 7, 8:
			if _, e = c.p.Change(1, []byte("x"), []byte("5555")); e == api.ErrWrong {
				values++
			}
		default:
			if _, e = c.p.Verify(1, []byte("x")); e == api.ErrWrong {
				values++
			}
		}
		if e == api.OK && r.IntN(10) == 0 {
			e = api.ErrPower // although nothing was cut, the card is mounted again
		}
		if c.mem.Restore(); e == api.ErrPower || !c.v.Alive() {
			c = mounted(t, c.mem)
		}
	}
	return values, codes
}

func TestNoExtraGuess(t *testing.T) {
	allValues, allCodes := 0, 0
	for seed := range uint64(60) {
		r := rand.New(rand.NewPCG(seed, 25))
		d := example()
		d.Limit, d.UnblockLimit = 1+r.IntN(6), 1+r.IntN(6)
		c := newCard(t, 4096)
		expect(t, "Create", c.p.Create(d), api.OK)
		values, codes := guessing(t, c, r)
		if values > d.Limit || codes > d.UnblockLimit {
			t.Fatal("there were", values, "and", codes, "wrong guesses with the limits", d.Limit, d.UnblockLimit)
		}
		allValues, allCodes = allValues+values, allCodes+codes
	}
	if allValues < 60 || allCodes < 60 {
		t.Error("there were only", allValues, "and", allCodes, "guesses")
	}
}

// TestGuessesBetweenSuccesses is about right guesses between the wrong ones: each of them permits as many wrong ones as before.
func TestGuessesBetweenSuccesses(t *testing.T) {
	c := cardWith(t, example())
	for n := range 40 {
		switch n % 4 {
		case 0:
			c.verify(t, 1, "1234", 3, api.OK)
		case 1:
			c.change(t, 1, "1234", "1234", 3, api.OK)
		case 2:
			c.unblock(t, 1, "99", "1234", 3, api.OK)
		case 3:
			c.set(t, 1, "1234", api.OK)
		}
		c.begin(t)
		for left := 2; left >= n%3; left-- {
			c.verify(t, 1, "x", left, api.ErrWrong)
		}
		c.abort(t)
		c.info(t, 1, n%3, 2, 3)
		if n%3 == 0 {
			c.verify(t, 1, "1234", 0, api.ErrBlocked)
			c.set(t, 1, "1234", api.OK)
		}
	}
}
