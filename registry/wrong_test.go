package registry_test

import (
	"math/rand/v2"
	"testing"

	"smartcard/api"
	"smartcard/cell"
	"smartcard/registry"
	"smartcard/vault"
)

// P4, as far as it reaches the registry

// used returns a card whose registry has changed often, and the model.
func used(t *testing.T, r *rand.Rand) (*card, *model) {
	t.Helper()
	c, m := filled(t, 24*(120+r.IntN(100)))
	for range 80 {
		onBoth(t, c.r, m, randomCall(r, m))
	}
	return c, m
}

func TestOneWrongBit(t *testing.T) {
	for seed := range uint64(10) {
		r := rand.New(rand.NewPCG(seed, 56))
		c, m := used(t, r)
		for a := range c.mem.Words() {
			c.mem.Flip(a, r.IntN(32))
		}
		expectModel(t, c.r, m)
		expectModel(t, mounted(t, c.mem).r, m)
		for range 30 {
			onBoth(t, c.r, m, randomCall(r, m))
		}
		expectModel(t, c.r, m)
		expectModel(t, mounted(t, c.mem).r, m)
	}
}

// spoil makes a word unreadable.
func spoil(m *cell.Memory, r *rand.Rand, a int) {
	bit := r.IntN(32)
	m.Flip(a, bit)
	m.Flip(a, (bit+1+r.IntN(31))%32)
}

// rightOrNothing expects that the registry is as in one of some states, or that nothing can be seen of it; it reports which.
func rightOrNothing(t *testing.T, x *registry.Registry, l []state) bool {
	t.Helper()
	got := contents(x)
	for _, s := range l {
		if got == contents(&model{durable: []state{s}}) {
			return true
		}
	}
	if got != contents(newModel()) {
		t.Fatalf("the registry is\n%s\nin none of %d states", got, len(l))
	}
	return false
}

// TestTwoWrongBits makes words unreadable: calls return what is right, or an error.
func TestTwoWrongBits(t *testing.T) {
	corrupt, nothing, fine := 0, 0, 0
	for seed := range uint64(200) {
		r := rand.New(rand.NewPCG(seed, 57))
		c, m := used(t, r)
		for range 1 + r.IntN(6) {
			spoil(c.mem, r, r.IntN(c.mem.Words()))
		}
		if !rightOrNothing(t, c.r, []state{m.last()}) {
			nothing++
		}
		before := len(m.durable) - 1
		f := randomCall(r, m)
		want := f(m)
		switch e := f(c.r); e {
		case want:
			fine++
		case api.ErrCorrupt:
			corrupt++
			if c.v.Active() {
				t.Fatal("there is a transaction")
			}
		default:
			t.Fatal("a call returns", e, "and not", want)
		}
		rightOrNothing(t, c.r, m.durable[before:])
	}
	if corrupt == 0 || nothing == 0 || fine == 0 {
		t.Error("some of these have never happened, and were not tested:", corrupt, nothing, fine)
	}
}

// TestUnreadableEntry makes each word unreadable in its turn: an entry that cannot be read is not taken for one that is not there.
func TestUnreadableEntry(t *testing.T) {
	c, m := filled(t, 60*24)
	refused := 0
	for a := range c.mem.Words() {
		d := mounted(t, c.mem.Clone())
		spoil(d.mem, rand.New(rand.NewPCG(uint64(a), 58)), a)
		if rightOrNothing(t, d.r, []state{m.last()}) {
			continue
		}
		refused++
		expectUnusable(t, d.r, api.ErrArg, api.ErrCorrupt)
		d.add(t, issuerEntry(nobody), api.ErrCorrupt) // as if the registry were empty
		v, e := vault.Mount(d.mem)
		if e == api.ErrCorrupt {
			continue
		}
		expect(t, "Mount", e, api.OK)
		r, e := registry.Open(v)
		expect(t, "Open", e, api.OK)
		expectUnusable(t, r, api.ErrArg, api.ErrCorrupt)
	}
	if refused == 0 {
		t.Error("all words could be spoiled")
	}
}
