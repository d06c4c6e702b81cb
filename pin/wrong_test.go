package pin_test

import (
	"math/rand/v2"
	"slices"
	"testing"

	"smartcard/api"
	"smartcard/cell"
)

// P4, as far as it reaches the PINs

// used returns a card whose PINs have changed often, and the model.
func used(t *testing.T, r *rand.Rand) (*card, *model) {
	t.Helper()
	c, m := newCard(t, 24*(60+r.IntN(100))), newModel()
	for range 80 {
		onBoth(t, c.p, m, randomCall(r, m))
	}
	return c, m
}

func TestOneWrongBit(t *testing.T) {
	for seed := range uint64(10) {
		r := rand.New(rand.NewPCG(seed, 26))
		c, m := used(t, r)
		for a := range c.mem.Words() {
			c.mem.Flip(a, r.IntN(32))
		}
		expectModel(t, c.p, m)
		expectModel(t, mounted(t, c.mem).p, m)
		if !is(t, c.mem, m.durable()) {
			t.Fatal("the values are not right")
		}
		for range 30 {
			onBoth(t, c.p, m, randomCall(r, m))
		}
		expectModel(t, c.p, m)
		expectModel(t, mounted(t, c.mem).p, m)
	}
}

// spoil makes a word unreadable.
func spoil(m *cell.Memory, r *rand.Rand, a int) {
	bit := r.IntN(32)
	m.Flip(a, bit)
	m.Flip(a, (bit+1+r.IntN(31))%32)
}

// expectRightOrNothing expects that each PIN that can be read is as in one of some states; it returns how many cannot be read.
func expectRightOrNothing(t *testing.T, p pins, l []state) (nothing int) {
	t.Helper()
	for id := 1; id <= 8; id++ {
		got, ok := p.Info(id)
		if slices.Contains(p.List(), id) != ok {
			t.Fatal("List is", p.List(), "and Info of", id, ok)
		}
		if !ok {
			nothing++
			continue
		}
		if !slices.ContainsFunc(l, func(s state) bool { x, _ := (&model{states: []state{s}}).Info(id); return x == got }) {
			t.Fatal("Info is", got, "and in none of", l)
		}
	}
	return nothing
}

// TestTwoWrongBits makes words unreadable: calls return what is right, or an error, and no guess is free of charge.
func TestTwoWrongBits(t *testing.T) {
	corrupt, nothing, fine := 0, 0, 0
	for seed := range uint64(200) {
		r := rand.New(rand.NewPCG(seed, 27))
		c, m := used(t, r)
		for range 1 + r.IntN(6) {
			spoil(c.mem, r, r.IntN(c.mem.Words()))
		}
		nothing += expectRightOrNothing(t, c.p, []state{m.durable()}) - (8 - len(m.List()))
		before := len(m.states) - 1
		f := randomCall(r, m)
		want, wantE := f(m)
		switch got, e := f(c.p); {
		case e == wantE && got == want:
			fine++
		case e == api.ErrCorrupt && (got == "0" || got == ""):
			corrupt++
			if c.v.Active() {
				t.Fatal("there is a transaction")
			}
		default:
			t.Fatal("a call returns", got, e, "and not", want, wantE)
		}
		expectRightOrNothing(t, c.p, m.states[before:])
	}
	if corrupt == 0 || nothing == 0 || fine == 0 {
		t.Error("some of these have never happened, and were not tested:", corrupt, nothing, fine)
	}
}

// expectDamaged expects that the PIN 1 is neither there nor can be created: its tries would be new ones.
func expectDamaged(t *testing.T, c *card) {
	t.Helper()
	expect(t, "Create", c.p.Create(example()), api.ErrCorrupt)
	expect(t, "Delete", c.p.Delete(1), api.ErrCorrupt)
	c.set(t, 1, "5555", api.ErrCorrupt)
	c.verify(t, 1, "1234", 0, api.ErrCorrupt)
	c.change(t, 1, "1234", "5555", 0, api.ErrCorrupt)
	c.unblock(t, 1, "99", "5555", 0, api.ErrCorrupt)
	if x, ok := c.p.Info(1); ok || x != (api.PinInfo{}) || slices.Contains(c.p.List(), 1) {
		t.Fatal("there is a PIN", x)
	}
}

// TestUnreadablePin makes each word unreadable in its turn.
func TestUnreadablePin(t *testing.T) {
	c := newCard(t, 60*24)
	expect(t, "Create", c.p.Create(example()), api.OK)
	c.verify(t, 1, "x", 2, api.ErrWrong)
	damaged, spent := 0, 0
	for a := range c.mem.Words() {
		d := mounted(t, c.mem.Clone())
		spoil(d.mem, rand.New(rand.NewPCG(uint64(a), 28)), a)
		if _, ok := d.p.Info(1); !ok {
			expectDamaged(t, d)
			damaged++
			continue
		}
		guesses := 0
		for range 9 {
			if _, e := d.p.Verify(1, []byte("x")); e == api.ErrWrong {
				guesses++
			} else if e != api.ErrBlocked && e != api.ErrCorrupt {
				t.Fatal("Verify returns", e)
			}
		}
		if guesses > 2 {
			t.Fatal("there were", guesses, "guesses")
		}
		spent += guesses
	}
	if damaged == 0 || spent == 0 {
		t.Error("one of these has never happened:", damaged, spent)
	}
}

// TestItemsThatNoPinHas is about items of PINs that something else has written.
func TestItemsThatNoPinHas(t *testing.T) {
	c := cardWith(t, example(), plain(2, 3, "a"))
	for _, item := range c.v.IDs() {
		right, _ := c.v.Get(item)
		for _, b := range [][]byte{nil, {0}, {15}, {15, 15}, {4, 2}, {3, 3}, {0, 0, 0}, {1, 1, 1, 1}, {1, 1, 1, 1, 1}, {4, 8, 3, 2, 9, 1, 2, 3, 4, 5}, {4, 8, 3, 0, 9, 1, 2, 3, 4, 5}, {4, 8, 3, 2, 4, 1, 2, 3, 4}, {4, 8, 3, 0, 4, 1, 2, 3, 4, 5}, slices.Repeat([]byte{0xff}, 300)} {
			expect(t, "Put", c.v.Put(item, b), api.OK)
			damaged := 0
			for id := 1; id <= 2; id++ {
				if _, ok := c.p.Info(id); ok {
					continue
				}
				if damaged++; id == 1 {
					expectDamaged(t, c)
				}
			}
			if damaged != 1 {
				t.Errorf("%d PINs are damaged if the item %d is %x", damaged, item, b)
			}
		}
		expect(t, "Put", c.v.Put(item, right), api.OK)
		c.list(t, 1, 2)
	}
}
