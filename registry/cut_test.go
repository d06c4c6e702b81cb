package registry_test

import (
	"math/rand/v2"
	"testing"

	"smartcard/api"
	"smartcard/cell"
)

// step is a call of a registry or of its vault, for a card and for the model.
type step struct {
	card  func(c *card) api.Errno
	model func(m *model) api.Errno
}

func calling(f call) step {
	return step{
		func(c *card) api.Errno { return f(c.r) },
		func(m *model) api.Errno { return f(m) },
	}
}

var (
	beginning  = step{func(c *card) api.Errno { return c.v.Begin() }, (*model).begin}
	committing = step{func(c *card) api.Errno { return c.v.Commit() }, (*model).commit}
	aborting   = step{func(c *card) api.Errno { return c.v.Abort() }, (*model).abort}
)

// restored returns the card with a memory after a cut, and the model of it, which has one of some states.
func restored(t *testing.T, mem *cell.Memory, l []state) (*card, *model) {
	t.Helper()
	mem.Restore()
	c := mounted(t, mem)
	got := contents(c.r)
	for _, s := range l {
		if m := (&model{durable: []state{s}}); got == contents(m) {
			expectConsistent(t, c.r.List())
			return c, m
		}
	}
	t.Fatalf("the registry is\n%s\nin none of %d states", got, len(l))
	return nil, nil
}

// carryOut carries out steps on a card and on the model, until the power fails. It returns the states that the card may have then.
func carryOut(t *testing.T, c *card, m *model, l []step) ([]state, api.Errno) {
	t.Helper()
	for _, s := range l {
		before := len(m.durable) - 1
		want := s.model(m)
		e := s.card(c)
		if e == api.ErrPower {
			return m.durable[before:], e
		}
		if e != want {
			t.Fatal("a call returns", e, "and not", want)
		}
	}
	return m.durable[len(m.durable)-1:], api.OK
}

// cutSteps carries out steps with a cut before each write, each time on a clone of a memory. It returns the number of writes.
func cutSteps(t *testing.T, mem *cell.Memory, m *model, l ...step) int {
	t.Helper()
	for n := 0; ; n++ {
		c, after := mounted(t, mem.Clone()), m.copied()
		c.mem.Cut(n)
		start := c.mem.Writes()
		possible, e := carryOut(t, c, after, l)
		if e == api.OK {
			expectModel(t, c.r, after)
			restored(t, c.mem, possible)
			return c.mem.Writes() - start
		}
		expectUnusable(t, c.r, api.ErrArg, api.ErrPower)
		d, other := restored(t, c.mem, possible)
		expectUnusable(t, c.r, api.ErrArg, api.ErrPower)
		r := rand.New(rand.NewPCG(uint64(n), 54))
		for range 5 {
			onBoth(t, d.r, other, randomCall(r, other))
		}
		expectModel(t, d.r, other)
	}
}

// P26.13 and P3

func TestCutsOfCalls(t *testing.T) {
	c, m := filled(t, 60*24) // so small that it has to be cleaned now and then
	for _, f := range []call{
		adding(appEntry(ticket, issuer, 2)), locking(purse, true), locking(purse, false), setting(purse, api.AppPersonal),
		moving(purse, issuer), moving(library, issuer), removing(domain), adding(domainEntry(domain, issuer)), locking(domain, true),
		moving(ticket, domain), removing(purse), removing(library), removing(ticket), removing(nobody), removing(domain),
	} {
		if writes := cutSteps(t, c.mem, m, calling(f)); writes < 10 {
			t.Error("only", writes, "writes")
		}
		expect(t, "a call", onBoth(t, c.r, m, f), api.OK)
		expectModel(t, c.r, m)
	}
	c, m = newCard(t, 60*24), newModel()
	cutSteps(t, c.mem, m, calling(adding(issuerEntry(issuer))))
}

// TestCutsOfErrors is about calls that fail and write nothing.
func TestCutsOfErrors(t *testing.T) {
	c, m := filled(t, 60*24)
	for _, f := range []call{
		adding(appEntry(purse, issuer, 1)), adding(appEntry(ticket, issuer, 9)), removing(issuer), removing(library), removing(ticket),
		setting(purse, api.AppInstalled), locking(purse, false), locking(library, true), moving(purse, library), moving(domain, issuer),
	} {
		if writes := cutSteps(t, c.mem, m, calling(f)); writes > 0 {
			t.Error("a call that fails has written", writes, "words")
		}
	}
}

func TestCutsOfTransactions(t *testing.T) {
	c, m := filled(t, 60*24)
	for _, l := range [][]step{
		{beginning, calling(adding(appEntry(ticket, issuer, 2))), calling(locking(purse, true)), calling(moving(library, issuer)), committing},
		{beginning, calling(removing(ticket)), calling(removing(purse)), calling(removing(library)), aborting, calling(setting(ticket, api.AppPersonal))},
		{beginning, calling(removing(purse)), calling(removing(library)), calling(removing(domain)), calling(adding(packageEntry(purse, issuer, 7))), committing},
		{beginning, calling(removing(ticket)), calling(removing(nobody)), calling(removing(purse)), committing},
	} {
		cutSteps(t, c.mem, m, l...)
		if _, e := carryOut(t, c, m, l); e != api.OK {
			t.Fatal("without a cut there is the error", e)
		}
		expectModel(t, c.r, m)
	}
}

// TestModelWithCuts makes random calls, in transactions and outside, some with cuts.
func TestModelWithCuts(t *testing.T) {
	cuts := 0
	for seed := range uint64(8) {
		r := rand.New(rand.NewPCG(seed, 55))
		c, m := filled(t, 8192)
		for range 250 {
			if r.IntN(2) == 0 {
				c.mem.Cut(r.IntN(60))
			}
			s := calling(randomCall(r, m))
			switch n := r.IntN(20); {
			case n < 3 && !m.active():
				s = beginning
			case n < 2:
				s = committing
			case n < 3:
				s = aborting
			}
			possible, e := carryOut(t, c, m, []step{s})
			c.mem.Restore()
			if e == api.ErrPower {
				cuts++
				c, m = restored(t, c.mem, possible)
			}
			expectModel(t, c.r, m)
		}
	}
	if cuts < 50 {
		t.Error("only", cuts, "cuts")
	}
}
