package keys_test

import (
	"math/rand/v2"
	"testing"

	"smartcard/api"
	"smartcard/cell"
	"smartcard/keys"
)

// P4, as far as it reaches the keys

// used returns a card whose keys have changed often, and the model.
func used(t *testing.T, r *rand.Rand) (*card, *model) {
	t.Helper()
	c, m := newCard(t, 24*(120+r.IntN(100))), newModel()
	for range 80 {
		onBoth(t, c.k, m, randomCall(r))
	}
	return c, m
}

func TestOneWrongBit(t *testing.T) {
	for seed := range uint64(10) {
		r := rand.New(rand.NewPCG(seed, 36))
		c, m := used(t, r)
		for a := range c.mem.Words() {
			c.mem.Flip(a, r.IntN(32))
		}
		expectModel(t, c.k, m)
		expectModel(t, mounted(t, c.mem).k, m)
		for range 30 {
			onBoth(t, c.k, m, randomCall(r))
		}
		expectModel(t, c.k, m)
		expectModel(t, mounted(t, c.mem).k, m)
	}
}

// spoil makes a word unreadable.
func spoil(m *cell.Memory, r *rand.Rand, a int) {
	bit := r.IntN(32)
	m.Flip(a, bit)
	m.Flip(a, (bit+1+r.IntN(31))%32)
}

// expectRightOrNothing expects that each key that can be read is as in one of some states; it returns how many keys of the first one cannot be read.
func expectRightOrNothing(t *testing.T, k *keys.Keys, l []state) (nothing int) {
	t.Helper()
	for set := 1; set <= 8; set++ {
		tries := map[int]int{}
		for _, x := range k.Info(set) {
			tries[x.Kind] = x.Tries
		}
		for kind := 1; kind <= 6; kind++ {
			got, ok := k.Get(set, kind)
			if _, info := tries[kind]; info != ok {
				t.Fatal("Info is", k.Info(set), "and Get of", kind, ok)
			}
			if _, there := (&model{states: l[:1]}).Get(set, kind); there && !ok {
				nothing++
			}
			if ok && !anyState(l, got, tries[kind]) {
				t.Fatal("the key is", got, "with the tries", tries[kind], "and in none of", l)
			}
		}
	}
	return nothing
}

// anyState reports whether one of some states has a key with a number of tries.
func anyState(l []state, x api.Key, tries int) bool {
	for i := range l {
		if _, y := (&model{states: l[i : i+1]}).find(x.Set, x.Kind); same(y.Key, x) && y.tries == tries {
			return true
		}
	}
	return false
}

// TestTwoWrongBits makes words unreadable: calls return what is right, or an error, and no try is free of charge.
func TestTwoWrongBits(t *testing.T) {
	corrupt, nothing, fine := 0, 0, 0
	for seed := range uint64(200) {
		r := rand.New(rand.NewPCG(seed, 37))
		c, m := used(t, r)
		for range 1 + r.IntN(6) {
			spoil(c.mem, r, r.IntN(c.mem.Words()))
		}
		nothing += expectRightOrNothing(t, c.k, []state{m.durable()})
		before := len(m.states) - 1
		f := randomCall(r)
		want, wantE := f(m)
		switch got, e := f(c.k); {
		case e == wantE && got == want:
			fine++
		case e == api.ErrCorrupt && (got == "0" || got == ""):
			corrupt++
			if c.v.Active() {
				t.Fatal("there is a transaction")
			}
		default:
			t.Fatal("a call returns", got, e, "and not", want, wantE)
		}
		expectRightOrNothing(t, c.k, m.states[before:])
	}
	if corrupt == 0 || nothing == 0 || fine == 0 {
		t.Error("some of these have never happened, and were not tested:", corrupt, nothing, fine)
	}
}

// TestUnreadableKey makes each word unreadable in its turn: a key that cannot be read is not taken for one that is not there, and the keys are not opened then.
func TestUnreadableKey(t *testing.T) {
	c := newCard(t, 60*24)
	c.put(t, keyOf(1, 1, 5), api.OK)
	c.put(t, keyOf(2, 2, 5), api.OK)
	c.spend(t, 1, 1, 4, api.OK)
	damaged, refused := 0, 0
	for a := range c.mem.Words() {
		d := mounted(t, c.mem.Clone())
		spoil(d.mem, rand.New(rand.NewPCG(uint64(a), 38)), a)
		_, first := d.k.Get(1, 1)
		_, second := d.k.Get(2, 2)
		if !first {
			expectDamaged(t, d, 1, 1)
			damaged++
		}
		if k, e := keys.Open(d.v); first && second && (e != api.OK || k == nil) {
			t.Fatal("Open returns", k, e)
		} else if !first || !second {
			if e != api.ErrCorrupt || k != nil {
				t.Fatal("Open returns", k, e)
			}
			refused++
		}
	}
	if damaged == 0 || refused == 0 {
		t.Error("one of these has never happened:", damaged, refused)
	}
}
