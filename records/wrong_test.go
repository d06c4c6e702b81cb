package records_test

import (
	"bytes"
	"math/rand/v2"
	"testing"

	"smartcard/api"
	"smartcard/cell"
	"smartcard/vault"
)

// P4, as far as it reaches the contents

// used returns a card whose contents have changed often.
func used(t *testing.T, r *rand.Rand) (*card, model) {
	t.Helper()
	c, m := filled(t, r, 24*(120+r.IntN(100)))
	for range 60 {
		onBoth(t, c.f, m, randomCall(r, m))
	}
	return c, m
}

func TestOneWrongBit(t *testing.T) {
	for seed := range uint64(10) {
		r := rand.New(rand.NewPCG(seed, 20))
		c, m := used(t, r)
		for a := range c.mem.Words() {
			c.mem.Flip(a, r.IntN(32))
		}
		expectModel(t, c.f, m)
		expectModel(t, mounted(t, c.mem).f, m)
		for range 30 {
			onBoth(t, c.f, m, randomCall(r, m))
		}
		expectModel(t, c.f, m)
		expectModel(t, mounted(t, c.mem).f, m)
	}
}

// spoil makes a word unreadable.
func spoil(m *cell.Memory, r *rand.Rand, a int) {
	bit := r.IntN(32)
	m.Flip(a, bit)
	m.Flip(a, (bit+1+r.IntN(31))%32)
}

// expectRightOrError compares what can still be read; it returns how often there was an error.
func expectRightOrError(t *testing.T, f files, m model) (errors int) {
	t.Helper()
	for h := 2; h <= len(m); h++ {
		for _, c := range []call{
			func(f files) (string, api.Errno) { b, e := f.ReadBinary(h, 0, api.MaxFile); return shown(b, e) },
			func(f files) (string, api.Errno) { n, e := f.Count(h); return shown(n, e) },
			func(f files) (string, api.Errno) { b, e := f.Read(h, 1); return shown(b, e) },
			func(f files) (string, api.Errno) { l, e := f.Search(h, 1, []byte{1}); return shown(l, e) },
		} {
			got, e := c(f)
			want, wantE := c(m)
			switch {
			case e == wantE && got == want:
			case e == api.ErrCorrupt || e == api.ErrNone: // neither the content nor the header can be read
				errors++
			default:
				t.Fatal("a call for", h, "returns", got, e, "and not", want, wantE)
			}
		}
	}
	return errors
}

// TestTwoWrongBits makes words unreadable: calls return what is right, or an error, and change nothing then.
func TestTwoWrongBits(t *testing.T) {
	errors, failed, fine := 0, 0, 0
	for seed := range uint64(150) {
		r := rand.New(rand.NewPCG(seed, 21))
		c, m := used(t, r)
		for range 1 + r.IntN(6) {
			spoil(c.mem, r, r.IntN(c.mem.Words()))
		}
		errors += expectRightOrError(t, c.f, m)
		for range 5 {
			f, after := randomCall(r, m), m.copied()
			got, e := f(c.f)
			switch want, wantE := f(after); {
			case e == wantE && got == want:
				m = after
				fine++
			case e == api.ErrCorrupt || e == api.ErrNone:
				failed++
			default:
				t.Fatal("a call returns", got, e, "and not", want, wantE)
			}
			expectRightOrError(t, c.f, m)
		}
	}
	if errors == 0 || failed == 0 || fine == 0 {
		t.Error("some of these have never happened, and were not tested:", errors, failed, fine)
	}
}

// TestUnreadableContent makes each word unreadable in its turn. A content that cannot be read is not taken for one that was never changed.
func TestUnreadableContent(t *testing.T) {
	c := newCard(t, 60*24)
	h, k := c.create(t, binary(1, 40)), c.create(t, listed(2, api.FileVariable, 40, 3))
	want := bytes.Repeat([]byte{3}, 40)
	expect(t, "UpdateBinary", c.f.UpdateBinary(h, 0, want), api.OK)
	expect(t, "Append", c.f.Append(k, want), api.OK)
	binary, list := 0, 0
	for a := range c.mem.Words() {
		d := mounted(t, c.mem.Clone())
		spoil(d.mem, rand.New(rand.NewPCG(uint64(a), 22)), a)
		b, e := d.f.ReadBinary(h, 0, 40)
		if e == api.ErrCorrupt {
			expect(t, "UpdateBinary", d.f.UpdateBinary(h, 0, want), api.ErrCorrupt)
			expect(t, "Erase", d.f.Erase(h, 0, 40), api.ErrCorrupt)
			binary++
		} else if e != api.ErrNone {
			expectBytes(t, "ReadBinary", b, e, want...)
		}
		n, e := d.f.Count(k)
		if e == api.ErrCorrupt {
			expect(t, "Append", d.f.Append(k, want), api.ErrCorrupt)
			expect(t, "Update", d.f.Update(k, 1, want), api.ErrCorrupt)
			list++
		} else if e != api.ErrNone && (n != 1 || e != api.OK) {
			t.Fatal("Count returns", n, e)
		}
		if w, e := vault.Mount(d.mem); e != api.ErrCorrupt && (e != api.OK || w == nil) {
			t.Fatal("Mount returns", w, e)
		}
	}
	if binary == 0 || list == 0 {
		t.Error("one of the contents could always be read:", binary, list)
	}
}
