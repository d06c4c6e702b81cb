package auth_test

import (
	"bytes"
	"math/rand/v2"
	"testing"

	"smartcard/api"
	"smartcard/cell"
)

// P4, as far as it reaches the authentication

// usedCard returns a card with the sets 1 and 2, whose memory was written often; the counters are then 6 and 12.
func usedCard(t *testing.T, r *rand.Rand) *card {
	t.Helper()
	c := newCard(t, 24*(120+r.IntN(100)))
	c.put(t, keysOf(1)[:3]...)
	c.put(t, keysOf(2)[:3]...)
	for count := 1; count <= 6; count++ {
		c.begin(t, 1, count)
		c.begin(t, 2, 2*count-1)
		c.refuse(t, 1, make([]byte, 16), api.ErrWrong)
		c.begin(t, 2, 2*count)
		c.complete(t, 2, 2*count, 1)
	}
	return c
}

func TestOneWrongBit(t *testing.T) {
	for seed := range uint64(8) {
		r := rand.New(rand.NewPCG(seed, 235))
		c := usedCard(t, r)
		for a := range c.mem.Words() {
			c.mem.Flip(a, r.IntN(32))
		}
		c.begin(t, 1, 7)
		c.complete(t, 1, 7, 0x33)
		c.begin(t, 2, 13)
		c.refuse(t, 1, make([]byte, 16), api.ErrWrong)
		d := mounted(t, c.mem)
		d.tries(t, 2, 2)
		d.counter(t, 1, 7)
		b, e := d.a.Begin(0, host8)
		if e != api.OK || !bytes.Equal(b, responseFor(keysOf(2), 2, 14, host8)) {
			t.Fatal("Begin returns", b, e)
		}
	}
}

// spoil makes a word unreadable.
func spoil(m *cell.Memory, r *rand.Rand, a int) {
	bit := r.IntN(32)
	m.Flip(a, bit)
	m.Flip(a, (bit+1+r.IntN(31))%32)
}

// expectRightOrError makes an authentication with the set 1, 2 or 0, whose words may be unreadable: it returns what is right, or an error.
func expectRightOrError(t *testing.T, c *card, set, count int) api.Errno {
	t.Helper()
	number := set
	if set == 0 {
		number = 2
	}
	b, e := c.a.Begin(set, host8)
	if e != api.OK {
		if len(b) > 0 || e != api.ErrKey && e != api.ErrCorrupt {
			t.Fatal("Begin returns", b, e)
		}
		return e
	}
	if !bytes.Equal(b, responseFor(keysOf(number), number, count, host8)) {
		t.Fatalf("Begin returns %x", b)
	}
	s, data := answerFor(keysOf(number), count, host8, 3)
	got, mac, n, e := c.a.Finish(3, data)
	if e == api.OK && (!equal(got, s) || !bytes.Equal(mac, data[8:]) || n != number) {
		t.Fatal("Finish returns", got, mac, n)
	}
	if e != api.OK && e != api.ErrKey && e != api.ErrCorrupt {
		t.Fatal("Finish returns", e)
	}
	return e
}

// TestTwoWrongBits makes words unreadable.
func TestTwoWrongBits(t *testing.T) {
	count := map[api.Errno]int{}
	for seed := range uint64(150) {
		r := rand.New(rand.NewPCG(seed, 236))
		c := usedCard(t, r)
		for range 1 + r.IntN(40) {
			spoil(c.mem, r, r.IntN(c.mem.Words()))
		}
		set := r.IntN(3)
		count[expectRightOrError(t, c, set, []int{13, 7, 13}[set])]++
	}
	if count[api.OK] == 0 || count[api.ErrKey] == 0 || count[api.ErrCorrupt] == 0 {
		t.Error("some of these have never happened, and were not tested:", count)
	}
}

// TestUnreadableItems makes each word unreadable in its turn: a counter that cannot be read does not start anew, and a set whose keys cannot be read is not passed over.
func TestUnreadableItems(t *testing.T) {
	c := newCard(t, 60*24)
	c.put(t, keysOf(1)[:3]...)
	c.put(t, keysOf(3)[1]) // a set in which only one key could be found
	c.begin(t, 1, 1)
	damaged, hidden := 0, 0
	for a := range c.mem.Words() {
		d := mounted(t, c.mem.Clone())
		spoil(d.mem, rand.New(rand.NewPCG(uint64(a), 237)), a)
		if _, ok := d.v.Get(api.ItemCard + 3); !ok {
			damaged++
			if _, ok := d.k.Get(1, api.KeyMac); ok {
				d.fail(t, 1, host8, api.ErrCorrupt)
			}
		}
		if len(d.k.Sets()) < 2 {
			hidden++
			d.fail(t, 0, host8, api.ErrCorrupt)
			continue
		}
		if b, e := d.a.Begin(0, host8); len(b) > 0 || e != api.ErrKey && e != api.ErrCorrupt {
			t.Fatal("Begin returns", b, e)
		}
	}
	if damaged == 0 || hidden == 0 {
		t.Error("one of these has never happened:", damaged, hidden)
	}
}
