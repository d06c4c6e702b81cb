package lifecycle_test

import (
	"math/rand/v2"
	"testing"

	"smartcard/api"
	"smartcard/lifecycle"
	"smartcard/vault"
)

// P4, as far as it reaches the life cycle

func TestOneWrongBit(t *testing.T) {
	for state := api.CardReady; state <= api.CardEnded; state++ {
		for seed := range uint64(5) {
			r := rand.New(rand.NewPCG(seed, 43))
			c := cardIn(t, state)
			for a := range c.mem.Words() {
				c.mem.Flip(a, r.IntN(32))
			}
			c.state(t, state)
			d := mounted(t, c.mem)
			d.state(t, state)
			for to := api.CardReady; to <= api.CardEnded; to++ {
				d.setAny(t, to)
			}
			mounted(t, c.mem).state(t, api.CardEnded)
		}
	}
}

// TestTwoWrongBits makes each word unreadable in its turn: a state that cannot be read is not taken for that of a new card.
func TestTwoWrongBits(t *testing.T) {
	for state := api.CardReady; state <= api.CardEnded; state++ {
		c, damaged := cardIn(t, state), 0
		for a := range c.mem.Words() {
			d := mounted(t, c.mem.Clone())
			d.mem.Flip(a, a%32)
			d.mem.Flip(a, (a+7)%32)
			if d.l.State() == state {
				continue
			}
			damaged++
			d.state(t, 0)
			if l, e := lifecycle.Open(d.v); e != api.ErrCorrupt || l != nil {
				t.Fatal("Open returns", l, e)
			}
			for to := api.CardReady; to <= api.CardEnded; to++ {
				d.set(t, to, api.ErrCorrupt)
			}
			d.set(t, 6, api.ErrArg)
		}
		if (damaged > 0) != (state != api.CardReady) {
			t.Error("the state", state, "could not be read with", damaged, "words")
		}
	}
}

// TestTwoWrongBitsBeforeMount expects the right state or an error of a vault that is mounted again.
func TestTwoWrongBitsBeforeMount(t *testing.T) {
	for state := api.CardReady; state <= api.CardEnded; state++ {
		c, damaged := cardIn(t, state), 0
		for a := range c.mem.Words() {
			m := c.mem.Clone()
			m.Flip(a, a%32)
			m.Flip(a, (a+11)%32)
			v, e := vault.Mount(m)
			if e == api.OK {
				var l *lifecycle.Life
				if l, e = lifecycle.Open(v); e == api.OK && l.State() != state {
					t.Fatal("the state is", l.State(), "and not", state)
				}
			}
			if e != api.OK {
				expect(t, "Mount or Open", e, api.ErrCorrupt)
				damaged++
			}
		}
		if damaged == 0 {
			t.Error("all could be read with two wrong bits")
		}
	}
}
