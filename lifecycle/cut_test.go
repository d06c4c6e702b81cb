package lifecycle_test

import (
	"math/rand/v2"
	"testing"

	"smartcard/api"
	"smartcard/lifecycle"
)

// P25.6 and P3

// settle expects that the state of a card after a cut is one of two, and that the card goes on from there. It reports whether it is the second one.
func settle(t *testing.T, c *card, before, after int) bool {
	t.Helper()
	if e := c.l.Set(api.CardEnded); e != api.ErrPower || c.l.State() != 0 {
		t.Fatal("without power, Set returns", e, "and State", c.l.State())
	}
	c.mem.Restore()
	d := mounted(t, c.mem)
	state := d.l.State()
	if state != before && state != after {
		t.Fatal("between", before, "and", after, "the state is", state)
	}
	for to := api.CardReady; to <= api.CardEnded; to++ {
		d.setAny(t, to)
	}
	d.state(t, api.CardEnded)
	mounted(t, c.mem).state(t, api.CardEnded)
	return state == after
}

func TestCuts(t *testing.T) {
	for from := api.CardReady; from < api.CardEnded; from++ {
		for to := api.CardReady; to <= api.CardEnded; to++ {
			if !lifecycle.Card(from, to) {
				continue
			}
			c, changed, n := cardIn(t, from), 0, 0
			for ; ; n++ {
				d := mounted(t, c.mem.Clone())
				d.mem.Cut(n)
				e := d.l.Set(to)
				if e == api.OK {
					break
				}
				expect(t, "Set with a cut", e, api.ErrPower)
				if settle(t, d, from, to) {
					changed++
				}
			}
			if n < 3 || changed == n {
				t.Error("with", n, "writes the state was", changed, "times the new one")
			}
		}
	}
}

// TestCutsOfTransactions changes the state and another item together.
func TestCutsOfTransactions(t *testing.T) {
	for n := 0; ; n++ {
		c := cardIn(t, api.CardInitialized)
		c.mem.Cut(n)
		c.begin(t)
		c.set(t, api.CardSecured, api.OK)
		expect(t, "Put", c.v.Put(2, []byte{1}), api.OK)
		c.set(t, api.CardLocked, api.OK)
		e := c.v.Commit()
		if e == api.OK {
			break
		}
		expect(t, "Commit with a cut", e, api.ErrPower)
		c.mem.Restore()
		_, changed := mounted(t, c.mem).v.Get(2)
		c.mem.Cut(0)
		if settle(t, c, api.CardInitialized, api.CardLocked) != changed {
			t.Fatal("the state and the other item have not changed together")
		}
	}
}

// TestCutsOfRandomCalls sets random states with cuts, in a memory that is so small that it is cleaned now and then.
func TestCutsOfRandomCalls(t *testing.T) {
	cuts := 0
	for seed := range uint64(20) {
		r := rand.New(rand.NewPCG(seed, 42))
		c := newCard(t, 40*24)
		c.set(t, 2, api.OK)
		c.set(t, 3, api.OK)
		for range 100 {
			from := c.l.State()
			to := api.CardLocked + api.CardSecured - from
			c.mem.Cut(r.IntN(60))
			e := c.l.Set(to)
			c.mem.Restore()
			if e == api.OK {
				c.state(t, to)
				continue
			}
			cuts++
			expect(t, "Set with a cut", e, api.ErrPower)
			c = mounted(t, c.mem)
			if state := c.l.State(); state != from && state != to {
				t.Fatal("between", from, "and", to, "the state is", state)
			}
		}
	}
	if cuts < 100 {
		t.Error("only", cuts, "cuts")
	}
}
