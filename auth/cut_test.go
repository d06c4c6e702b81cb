package auth_test

import (
	"math/rand/v2"
	"slices"
	"testing"

	"smartcard/api"
	"smartcard/cell"
)

// smallCard returns a card whose vault is small, so that it has to be cleaned now and then, with the keys of the set 1 and the counter 4.
func smallCard(t *testing.T) *card {
	t.Helper()
	c := newCard(t, 60*24)
	c.put(t, keysOf(1)[:3]...)
	c.setCounter(t, 1, 4)
	return c
}

// restored returns the card with a memory after a cut, which has to have one of some contents.
func restored(t *testing.T, mem *cell.Memory, l []string) *card {
	t.Helper()
	mem.Restore()
	c := mounted(t, mem)
	if got := contents(c.v); !slices.Contains(l, got) {
		t.Fatalf("the items are\n%s\nand none of %q", got, l)
	}
	return c
}

// expectDead expects that all calls return ErrPower.
func expectDead(t *testing.T, c *card) {
	t.Helper()
	c.refuse(t, 1, make([]byte, 16), api.ErrPower)
	c.fail(t, 1, host8, api.ErrPower)
	c.fail(t, 0, host8, api.ErrPower)
}

// cutCall makes a call with a cut before each write, each time on a clone of a memory that has to be mounted first and prepared. The items are afterwards those before the call or those after one of its steps. It returns the number of writes.
func cutCall(t *testing.T, mem *cell.Memory, prepare func(c *card), call func(c *card) api.Errno, steps ...func(c *card)) int {
	t.Helper()
	states := []string{contents(mounted(t, mem).v)}
	done := mounted(t, mem.Clone())
	for _, step := range steps {
		step(done)
		states = append(states, contents(mounted(t, done.mem).v))
	}
	for n := 0; ; n++ {
		c := mounted(t, mem.Clone())
		prepare(c)
		c.mem.Cut(n)
		start := c.mem.Writes()
		e := call(c)
		if e != api.ErrPower {
			restored(t, c.mem, states[len(states)-1:])
			return c.mem.Writes() - start
		}
		expectDead(t, c)
		d := restored(t, c.mem, states)
		expectDead(t, c)
		d.refuse(t, 1, make([]byte, 16), api.ErrState)
		expect(t, "Restore", d.k.Restore(1, api.KeyMac), api.OK)
		if _, e := d.a.Begin(1, host8); e != api.OK {
			t.Fatal("Begin after a cut returns", e)
		}
	}
}

// P23.5, P23.6 and P3

// spends takes a try of the key, and restores all of them.
func spends(c *card)   { c.k.Spend(1, api.KeyMac) }
func restores(c *card) { c.k.Restore(1, api.KeyMac) }

func TestCutsOfBegin(t *testing.T) {
	for _, set := range []int{0, 1} {
		for _, active := range []bool{false, true} {
			c := smallCard(t)
			prepare := func(d *card) {
				if active {
					d.v.Begin()
					d.v.Put(3000, []byte{1}) // which is gone with the power
				}
			}
			advance := func(d *card) { d.setCounter(t, 1, 5) }
			begin := func(d *card) api.Errno {
				b, e := d.a.Begin(set, host8)
				if (e == api.OK) != (len(b) > 0) {
					t.Fatal("Begin returns", b, e)
				}
				return e
			}
			if writes := cutCall(t, c.mem, prepare, begin, advance); writes < 10 {
				t.Error("only", writes, "writes")
			}
		}
	}
}

// cutFinish cuts the power in Finish, of an authentication that was begun with the counter 5.
func cutFinish(t *testing.T, spent int, active bool, data []byte, want api.Errno, steps ...func(c *card)) {
	t.Helper()
	c := smallCard(t)
	for range spent {
		spends(c)
	}
	prepared := mounted(t, c.mem.Clone())
	prepared.begin(t, 1, 5)
	prepare := func(d *card) {
		d.setCounter(t, 1, 4)
		d.begin(t, 1, 5)
		if active {
			d.v.Begin()
			d.v.Put(3000, []byte{1})
		}
	}
	finish := func(d *card) api.Errno {
		s, mac, set, e := d.a.Finish(1, data)
		if e != api.OK && (!equal(s, api.Session{}) || len(mac) > 0 || set != 0) {
			t.Fatal("Finish returns", s, mac, set, e)
		}
		if e != api.ErrPower && e != want {
			t.Fatal("Finish returns", e, "and not", want)
		}
		return e
	}
	if writes := cutCall(t, prepared.mem, prepare, finish, steps...); writes < 10*len(steps) {
		t.Error("only", writes, "writes")
	}
}

func TestCutsOfFinish(t *testing.T) {
	_, right := answerFor(keysOf(1), 5, host8, 1)
	for spent := range 3 {
		for _, active := range []bool{false, true} {
			cutFinish(t, spent, active, right, api.OK, spends, restores)
		}
	}
}

func TestCutsOfWrongProofs(t *testing.T) {
	for spent := range 3 {
		for _, active := range []bool{false, true} {
			cutFinish(t, spent, active, make([]byte, 16), api.ErrWrong, spends)
		}
	}
}

// P23.11

// TestFresh begins authentications with the same challenge, with transactions that are aborted, keys that change, and cuts: no response occurs twice.
func TestFresh(t *testing.T) {
	all, cuts := 0, 0
	for seed := range uint64(12) {
		r := rand.New(rand.NewPCG(seed, 233))
		c := newCard(t, 4096)
		c.put(t, keysOf(1)[:3]...)
		c.put(t, keysOf(2)[:3]...)
		seen := map[string]bool{}
		for range 150 {
			if r.IntN(3) == 0 {
				c.mem.Cut(r.IntN(150))
			}
			switch n := r.IntN(12); {
			case n == 0:
				c.v.Begin()
			case n == 1:
				c.v.Abort()
			case n == 2:
				c.v.Back(r.IntN(1 + c.v.Save()))
			case n == 3 && c.v.Active():
				c.k.Delete(1 + r.IntN(2))
			case n == 4:
				c.k.Put(keysOf(1 + r.IntN(2))[r.IntN(3)])
			case n == 5:
				c.a.Finish(1, make([]byte, 16))
			case n == 6:
				c.k.Restore(1+r.IntN(2), api.KeyMac)
			default:
				if b, e := c.a.Begin(1+r.IntN(2), host8); e == api.OK {
					if seen[string(b)] {
						t.Fatalf("the response %x occurs twice", b)
					}
					seen[string(b)] = true
				}
			}
			c.mem.Restore()
			if !c.v.Alive() {
				cuts++
				c = mounted(t, c.mem)
			}
		}
		all += len(seen)
	}
	if all < 300 || cuts < 100 {
		t.Error("only", all, "responses and", cuts, "cuts")
	}
}

// P5

// guess makes a call that helps somebody who does not know the keys. It reports whether a wrong proof was compared.
func guess(t *testing.T, c *card, r *rand.Rand) bool {
	t.Helper()
	switch n := r.IntN(12); {
	case n == 0:
		c.v.Begin()
	case n == 1:
		c.v.Abort()
	case n == 2:
		c.v.Back(r.IntN(1 + c.v.Save()))
	case n == 3 && c.v.Active():
		c.put(t, keysOf(1)[1])
	case n < 7:
		c.a.Begin(1, host8)
	default:
		_, _, _, e := c.a.Finish(1, filled(r, 16))
		return e == api.ErrWrong
	}
	return false
}

func TestNoExtraTry(t *testing.T) {
	all := 0
	for seed := range uint64(40) {
		r := rand.New(rand.NewPCG(seed, 234))
		c := newCard(t, 4096)
		c.put(t, keysOf(1)[:3]...)
		compared := 0
		for range 100 {
			cut := r.IntN(4) == 0 && !c.v.Active()
			if cut {
				c.mem.Cut(r.IntN(100))
			}
			if guess(t, c, r) {
				compared++
			}
			c.mem.Restore()
			if !c.v.Alive() {
				c = mounted(t, c.mem)
			}
		}
		if compared > 3 {
			t.Fatal(compared, "wrong proofs were compared with the limit 3")
		}
		all += compared
	}
	if all < 80 {
		t.Error("only", all, "wrong proofs were compared")
	}
}
