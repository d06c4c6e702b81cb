package keys_test

import (
	"bytes"
	"math"
	"slices"
	"testing"

	"smartcard/api"
	"smartcard/cell"
	"smartcard/keys"
	"smartcard/mode"
	"smartcard/vault"
)

const forever = 1 << 40 // an endurance that no test reaches

// card is a memory, and what lies on it.
type card struct {
	mem *cell.Memory
	v   *vault.Vault
	k   *keys.Keys
}

// newCard returns a new card whose memory has a number of words.
func newCard(t *testing.T, words int) *card {
	t.Helper()
	m, _, e := vault.New(api.MemoryConfig{Words: words, Endurance: forever})
	expect(t, "vault.New", e, api.OK)
	return mounted(t, m)
}

// mounted returns the card with a memory that has power.
func mounted(t *testing.T, m *cell.Memory) *card {
	t.Helper()
	v, e := vault.Mount(m)
	expect(t, "Mount", e, api.OK)
	k, e := keys.Open(v)
	if e != api.OK || k == nil {
		t.Fatal("Open returns", k, e)
	}
	return &card{m, v, k}
}

// cardWith returns a new card with keys.
func cardWith(t *testing.T, l ...api.Key) *card {
	t.Helper()
	c := newCard(t, 16384)
	for _, x := range l {
		c.put(t, x, api.OK)
	}
	return c
}

// value returns the value of a key, which differs for different seeds.
func value(seed int) []byte {
	b := make([]byte, 16)
	for i := range b {
		b[i] = byte(seed*17 + i*(seed+3))
	}
	return b
}

// keyOf returns a key with a value of its own.
func keyOf(set, kind, limit int) api.Key {
	return api.Key{Set: set, Kind: kind, Value: value(16*set + kind), Limit: limit}
}

func same(a, b api.Key) bool {
	return a.Set == b.Set && a.Kind == b.Kind && a.Limit == b.Limit && bytes.Equal(a.Value, b.Value)
}

func expect(t *testing.T, what string, got, want api.Errno) {
	t.Helper()
	if got != want {
		t.Fatal(what, "returns", got, "and not", want)
	}
}

func (c *card) put(t *testing.T, x api.Key, want api.Errno) {
	t.Helper()
	expect(t, "Put", c.k.Put(x), want)
}

// get compares a key, and its tries as Info shows them.
func (c *card) get(t *testing.T, want api.Key, tries int) {
	t.Helper()
	if got, ok := c.k.Get(want.Set, want.Kind); !ok || !same(got, want) {
		t.Fatal("Get returns", got, ok, "and not", want)
	}
	for _, x := range c.k.Info(want.Set) {
		if x.Kind == want.Kind && x.Tries == tries {
			return
		}
	}
	t.Fatal("Info is", c.k.Info(want.Set), "and the key", want.Kind, "should have the tries", tries)
}

func (c *card) none(t *testing.T, set, kind int) {
	t.Helper()
	if got, ok := c.k.Get(set, kind); ok || !same(got, api.Key{}) {
		t.Fatal("Get returns", got, ok)
	}
}

func (c *card) spend(t *testing.T, set, kind, want int, wantE api.Errno) {
	t.Helper()
	if got, e := c.k.Spend(set, kind); got != want || e != wantE {
		t.Fatal("Spend returns", got, e, "and not", want, wantE)
	}
}

func (c *card) restore(t *testing.T, set, kind int, want api.Errno) {
	t.Helper()
	expect(t, "Restore", c.k.Restore(set, kind), want)
}

func (c *card) sets(t *testing.T, want ...int) {
	t.Helper()
	if l := c.k.Sets(); !slices.Equal(l, want) {
		t.Fatal("Sets is", l, "and not", want)
	}
}

// kinds compares the kinds of the keys of a set, as Info shows them.
func (c *card) kinds(t *testing.T, set int, want ...int) {
	t.Helper()
	var l []int
	for _, x := range c.k.Info(set) {
		l = append(l, x.Kind)
		if x.Set != set {
			t.Fatal("Info of", set, "has a key of the set", x.Set)
		}
	}
	if !slices.Equal(l, want) {
		t.Fatal("the kinds of", set, "are", l, "and not", want)
	}
}

func (c *card) begin(t *testing.T) { t.Helper(); expect(t, "Begin", c.v.Begin(), api.OK) }

func (c *card) commit(t *testing.T) { t.Helper(); expect(t, "Commit", c.v.Commit(), api.OK) }

func (c *card) abort(t *testing.T) { t.Helper(); expect(t, "Abort", c.v.Abort(), api.OK) }

// strangeNames are no numbers of keys.
var strangeNames = [][2]int{
	{0, 1}, {-1, 1}, {9, 1}, {1, 0}, {1, 7}, {1, -1}, {2, -7}, {0, 9}, {0, 10}, {1, 9}, {0, 0}, {8, 7}, {15, 7}, {16, 1},
	{math.MaxInt, 1}, {math.MinInt, 1}, {1, math.MaxInt}, {1, math.MinInt}, {math.MaxInt, math.MaxInt}, {1 << 61, 1}, {1<<61 + 1, 2}, {256 + 1, 1}, {1, 256 + 1},
}

// Examples

func TestExampleOfTries(t *testing.T) {
	c := cardWith(t, keyOf(1, api.KeyMac, 2))
	c.spend(t, 1, api.KeyMac, 1, api.OK)
	c.spend(t, 1, api.KeyMac, 0, api.OK)
	c.spend(t, 1, api.KeyMac, 0, api.ErrBlocked)
	c.restore(t, 1, api.KeyMac, api.OK)
	c.spend(t, 1, api.KeyMac, 1, api.OK)
}

func TestExampleOfTransactions(t *testing.T) {
	c := cardWith(t, keyOf(1, api.KeyMac, 3))
	c.begin(t)
	c.spend(t, 1, api.KeyMac, 2, api.OK)
	c.abort(t)
	c.get(t, keyOf(1, api.KeyMac, 3), 2)
	c.begin(t)
	c.put(t, keyOf(1, api.KeyMac, 3), api.OK)
	c.spend(t, 1, api.KeyMac, 0, api.ErrState)
}

func TestExampleOfErrors(t *testing.T) {
	c := cardWith(t, keyOf(1, 1, 1))
	c.put(t, keyOf(9, 1, 1), api.ErrArg)
	x := keyOf(1, 1, 1)
	x.Value = x.Value[:15]
	c.put(t, x, api.ErrArg)
	expect(t, "Delete", c.k.Delete(3), api.ErrNone)
}

// Objects

// expectUnusable expects that all calls return an error, and Put the error for a key that is not valid, or nothing.
func expectUnusable(t *testing.T, k *keys.Keys, invalid, want api.Errno) {
	t.Helper()
	c := &card{k: k}
	for _, n := range append(strangeNames, [2]int{1, 1}, [2]int{8, 6}) {
		c.none(t, n[0], n[1])
		c.spend(t, n[0], n[1], 0, want)
		c.restore(t, n[0], n[1], want)
		expect(t, "Delete", k.Delete(n[0]), want)
		c.kinds(t, n[0])
	}
	c.sets(t)
	c.put(t, keyOf(1, 1, 1), want)
	c.put(t, keyOf(1, 0, 1), invalid)
}

func TestNoKeys(t *testing.T) {
	expectUnusable(t, nil, api.ErrNil, api.ErrNil)
	expectUnusable(t, &keys.Keys{}, api.ErrNil, api.ErrNil)
}

func TestNoPower(t *testing.T) {
	c := cardWith(t, keyOf(1, 1, 5))
	c.mem.Cut(0)
	c.put(t, keyOf(1, 1, 4), api.ErrPower)
	expectUnusable(t, c.k, api.ErrArg, api.ErrPower)
	c.mem.Restore()
	expectUnusable(t, c.k, api.ErrArg, api.ErrPower)
	mounted(t, c.mem).get(t, keyOf(1, 1, 5), 5)
}

// TestTwoObjects opens the keys of a vault twice: a change through one of them is seen through the other.
func TestTwoObjects(t *testing.T) {
	c := cardWith(t, keyOf(1, 1, 5))
	k, e := keys.Open(c.v)
	expect(t, "Open", e, api.OK)
	d := &card{c.mem, c.v, k}
	d.spend(t, 1, 1, 4, api.OK)
	c.spend(t, 1, 1, 3, api.OK)
	d.get(t, keyOf(1, 1, 5), 3)
	c.begin(t)
	d.put(t, keyOf(2, 3, 4), api.OK)
	c.sets(t, 1, 2)
	c.spend(t, 2, 3, 0, api.ErrState)
	expect(t, "Delete", c.k.Delete(1), api.OK)
	d.sets(t, 2)
	c.abort(t)
	d.sets(t, 1)
	d.none(t, 2, 3)
}

// P22.1

func TestOpen(t *testing.T) {
	c := newCard(t, 16384)
	c.sets(t)
	if len(c.v.IDs()) > 0 {
		t.Error("Open has made items:", c.v.IDs())
	}
	expect(t, "Put", c.v.Put(api.ItemKeys-1, []byte{1}), api.OK) // of other layers
	expect(t, "Put", c.v.Put(api.ItemRegistry, []byte{1}), api.OK)
	c.put(t, keyOf(8, 6, 15), api.OK)
	c.spend(t, 8, 6, 14, api.OK)
	ids, writes := c.v.IDs(), c.mem.Writes()
	k, e := keys.Open(c.v)
	expect(t, "Open", e, api.OK)
	(&card{c.mem, c.v, k}).get(t, keyOf(8, 6, 15), 14)
	if !slices.Equal(c.v.IDs(), ids) || c.mem.Writes() != writes {
		t.Error("Open has changed something")
	}
	mounted(t, c.mem).get(t, keyOf(8, 6, 15), 14)
}

func expectNoKeys(t *testing.T, what string, v *vault.Vault, want api.Errno) {
	t.Helper()
	if k, e := keys.Open(v); k != nil || e != want {
		t.Error("Open of", what, "returns", k, e)
	}
}

func TestErrorsOfOpen(t *testing.T) {
	expectNoKeys(t, "nil", nil, api.ErrNil)
	expectNoKeys(t, "a vault that is none", &vault.Vault{}, api.ErrPower)
	c := cardWith(t, keyOf(1, 1, 1))
	expect(t, "Put", c.v.Put(api.ItemKeys+9, nil), api.OK)
	expectNoKeys(t, "a vault with another item", c.v, api.ErrCorrupt)
	c.mem.Cut(0)
	expect(t, "Put", c.v.Put(1, nil), api.ErrPower)
	expectNoKeys(t, "a vault without power", c.v, api.ErrPower)
	c.mem.Restore()
	expectNoKeys(t, "a vault that had no power", c.v, api.ErrPower)
}

// TestItemsThatNoKeyHas is about items of this layer that cannot be decoded.
func TestItemsThatNoKeyHas(t *testing.T) {
	c := cardWith(t, keyOf(2, 3, 4))
	item := api.ItemKeys + 8*2 + 3
	right, ok := c.v.Get(item)
	if !ok {
		t.Fatal("the item is another one")
	}
	for _, b := range [][]byte{nil, {1}, right[:len(right)-1], append(bytes.Clone(right), 0), append([]byte{4, 5}, right[2:]...), append([]byte{16, 4}, right[2:]...), make([]byte, 16), make([]byte, len(right)), slices.Repeat([]byte{0xff}, len(right)), slices.Repeat([]byte{16}, len(right)), make([]byte, 2048)} {
		expect(t, "Put", c.v.Put(item, b), api.OK)
		expectNoKeys(t, "a vault with another item", c.v, api.ErrCorrupt)
		expectDamaged(t, c, 2, 3)
		c.sets(t)
	}
	c.put(t, keyOf(2, 3, 5), api.OK)
	c.get(t, keyOf(2, 3, 5), 5)
	for _, id := range []int{api.ItemKeys, api.ItemKeys + 8, api.ItemKeys + 8 + 7, api.ItemKeys + 8*9 + 1, api.ItemRegistry - 1} {
		expect(t, "Put", c.v.Put(id, right), api.OK)
		expectNoKeys(t, "a vault with an item that no key has", c.v, api.ErrCorrupt)
		c.sets(t, 2)
		expect(t, "Delete", c.v.Delete(id), api.OK)
	}
	mounted(t, c.mem).sets(t, 2)
}

// expectDamaged expects that a key cannot be read.
func expectDamaged(t *testing.T, c *card, set, kind int) {
	t.Helper()
	c.none(t, set, kind)
	c.spend(t, set, kind, 0, api.ErrCorrupt)
	c.restore(t, set, kind, api.ErrCorrupt)
	for _, x := range c.k.Info(set) {
		if x.Kind == kind {
			t.Fatal("Info has", x)
		}
	}
}

// TestDeleteOfDamagedKey is about a set in which a key cannot be read: no key of it remains.
func TestDeleteOfDamagedKey(t *testing.T) {
	c := cardWith(t, keyOf(2, 3, 4), keyOf(2, 4, 4), keyOf(3, 1, 4))
	expect(t, "Put", c.v.Put(api.ItemKeys+8*2+4, []byte{1}), api.OK)
	expectDamaged(t, c, 2, 4)
	c.kinds(t, 2, 3)
	c.spend(t, 2, 3, 3, api.OK) // others are not concerned
	expect(t, "Delete", c.k.Delete(2), api.OK)
	c.spend(t, 2, 4, 0, api.ErrKey)
	mounted(t, c.mem).sets(t, 3)
}

// P22.2

func TestPut(t *testing.T) {
	c := newCard(t, 16384)
	var all []api.Key
	for set := 8; set >= 1; set-- {
		for _, kind := range []int{3, 1, 6, 5, 4, 2} {
			x := keyOf(set, kind, 1+(set+7*kind)%15)
			c.none(t, set, kind)
			c.put(t, x, api.OK)
			all = append(all, x)
			b, ok := c.v.Get(api.ItemKeys + 8*set + kind)
			if !ok || len(b) > 16+8 {
				t.Errorf("the item is %x", b)
			}
		}
		c.kinds(t, set, 1, 2, 3, 4, 5, 6)
	}
	if len(c.v.IDs()) != 48 {
		t.Error("the items are", c.v.IDs())
	}
	c.sets(t, 1, 2, 3, 4, 5, 6, 7, 8)
	d := mounted(t, c.mem)
	for _, x := range all {
		c.get(t, x, x.Limit)
		d.get(t, x, x.Limit)
	}
}

func TestReplace(t *testing.T) {
	c := cardWith(t, keyOf(1, 1, 5), keyOf(1, 2, 5))
	c.spend(t, 1, 1, 4, api.OK)
	c.spend(t, 1, 2, 4, api.OK)
	x := api.Key{Set: 1, Kind: 1, Value: value(99), Limit: 7}
	c.put(t, x, api.OK)
	c.get(t, x, 7)
	c.get(t, keyOf(1, 2, 5), 4)
	c.spend(t, 1, 1, 6, api.OK)
	c.put(t, x, api.OK) // the same key again
	c.get(t, x, 7)
	for range 7 {
		c.k.Spend(1, 1)
	}
	x.Limit = 1
	c.put(t, x, api.OK) // although it is blocked
	c.get(t, x, 1)
	mounted(t, c.mem).get(t, x, 1)
}

func TestInvalidKeys(t *testing.T) {
	c := cardWith(t, keyOf(1, 1, 5))
	writes := c.mem.Writes()
	for _, n := range strangeNames {
		c.put(t, api.Key{Set: n[0], Kind: n[1], Value: value(1), Limit: 5}, api.ErrArg)
		c.none(t, n[0], n[1])
	}
	for _, length := range []int{0, 1, 8, 15, 17, 24, 32, 16 + 256, 100000} {
		c.put(t, api.Key{Set: 1, Kind: 1, Value: make([]byte, length), Limit: 5}, api.ErrArg)
	}
	for _, limit := range []int{0, -1, 16, 255, 256, 257, math.MaxInt, math.MinInt} {
		c.put(t, api.Key{Set: 1, Kind: 1, Value: value(1), Limit: limit}, api.ErrArg)
	}
	c.get(t, keyOf(1, 1, 5), 5)
	if c.mem.Writes() != writes || len(c.v.IDs()) != 1 {
		t.Error("something was written")
	}
}

func TestLimits(t *testing.T) {
	for limit := 1; limit <= 15; limit++ {
		c := cardWith(t, keyOf(3, 5, limit))
		c.get(t, keyOf(3, 5, limit), limit)
	}
}

func TestDelete(t *testing.T) {
	c := cardWith(t, keyOf(1, 1, 5), keyOf(1, 6, 5), keyOf(2, 1, 5), keyOf(2, 2, 5), keyOf(8, 3, 1))
	for _, n := range strangeNames {
		if n[0] < 1 || n[0] > 2 && n[0] != 8 {
			expect(t, "Delete", c.k.Delete(n[0]), api.ErrNone)
		}
	}
	expect(t, "Delete", c.k.Delete(3), api.ErrNone)
	c.spend(t, 8, 3, 0, api.OK)
	expect(t, "Delete", c.k.Delete(1), api.OK)
	expect(t, "Delete", c.k.Delete(1), api.ErrNone)
	c.none(t, 1, 1)
	c.none(t, 1, 6)
	c.sets(t, 2, 8)
	c.get(t, keyOf(2, 1, 5), 5)
	c.get(t, keyOf(2, 2, 5), 5)
	expect(t, "Delete", c.k.Delete(8), api.OK) // although its key is blocked
	mounted(t, c.mem).sets(t, 2)
	if ids := c.v.IDs(); !slices.Equal(ids, []int{api.ItemKeys + 17, api.ItemKeys + 18}) {
		t.Error("the items are", ids)
	}
}

func TestChangesInTransaction(t *testing.T) {
	c := cardWith(t, keyOf(1, 1, 5), keyOf(2, 1, 5))
	c.spend(t, 1, 1, 4, api.OK)
	c.begin(t)
	c.put(t, keyOf(1, 1, 9), api.OK)
	c.put(t, keyOf(3, 2, 3), api.OK)
	expect(t, "Delete", c.k.Delete(2), api.OK)
	c.get(t, keyOf(1, 1, 9), 9)
	c.sets(t, 1, 3)
	c.none(t, 2, 1)
	d := mounted(t, c.mem) // which sees nothing of the transaction
	d.sets(t, 1, 2)
	d.get(t, keyOf(1, 1, 5), 4)
	c.abort(t)
	c.sets(t, 1, 2)
	c.get(t, keyOf(1, 1, 5), 4)
	c.begin(t)
	c.put(t, keyOf(1, 1, 9), api.OK)
	mark := c.v.Save()
	expect(t, "Delete", c.k.Delete(1), api.OK)
	expect(t, "Delete", c.k.Delete(1), api.ErrNone)
	c.sets(t, 2)
	expect(t, "Back", c.v.Back(mark), api.OK)
	c.sets(t, 1, 2)
	c.commit(t)
	c.get(t, keyOf(1, 1, 9), 9)
	mounted(t, c.mem).get(t, keyOf(1, 1, 9), 9)
}

// TestNoRoom is about a vault that is too small for a key.
func TestNoRoom(t *testing.T) {
	c := newCard(t, 40*24) // with a room of 192
	full := 0
	for kind := 1; kind <= 6; kind++ {
		if e := c.k.Put(keyOf(1, kind, 5)); e == api.OK {
			continue
		}
		full++
		c.put(t, keyOf(1, kind, 5), api.ErrFull)
		c.none(t, 1, kind)
	}
	if full == 0 || full == 6 {
		t.Error("there was no room for", full, "keys")
	}
	c.spend(t, 1, 1, 4, api.OK) // for which no more room is needed
	c.put(t, keyOf(1, 1, 5), api.OK)
	expect(t, "Delete", c.k.Delete(1), api.OK)
	c.sets(t)
}

// leave fills the commit buffer, so that a number of bytes are left.
func (c *card) leave(t *testing.T, left int) {
	t.Helper()
	for id := 3000; c.v.Left() > left; id++ {
		n := c.v.Left() - left - 8
		if n > api.MaxItem {
			n = api.MaxItem - 8 // so that enough remains for another item
		}
		expect(t, "Put", c.v.Put(id, make([]byte, n)), api.OK)
	}
}

// TestFullCommitBuffer is about transactions in which not enough is left of the commit buffer: Delete deletes all keys of the set, or none.
func TestFullCommitBuffer(t *testing.T) {
	failed := 0
	for left := range 64 {
		l, _ := keys.Master(2, value(1))
		c := cardWith(t, l...)
		c.begin(t)
		c.leave(t, left)
		save := c.v.Save()
		if left < 16+8 {
			c.put(t, keyOf(1, 1, 5), api.ErrBuffer)
			c.put(t, keyOf(2, 1, 5), api.ErrBuffer)
			c.sets(t, 2)
		}
		c.spend(t, 2, 1, 9, api.OK) // for which the commit buffer is not needed
		e := c.k.Delete(2)
		if left >= 6*8 {
			expect(t, "Delete", e, api.OK)
			c.sets(t)
			continue
		}
		failed++
		expect(t, "Delete", e, api.ErrBuffer)
		c.kinds(t, 2, 1, 2, 3, 4, 5, 6)
		if c.v.Save() != save || c.v.Left() != left {
			t.Fatal("Save and Left are", c.v.Save(), c.v.Left())
		}
		c.spend(t, 2, 2, 9, api.OK) // the keys are not changed
	}
	if failed != 48 {
		t.Error("Delete has failed", failed, "times")
	}
}

// P22.3

func TestSetsAndInfo(t *testing.T) {
	c := newCard(t, 16384)
	c.sets(t)
	for _, n := range strangeNames {
		c.kinds(t, n[0])
	}
	for _, set := range []int{5, 2, 8} {
		for _, kind := range []int{6, 2, 5} {
			c.put(t, keyOf(set, kind, set+kind), api.OK)
		}
	}
	c.sets(t, 2, 5, 8)
	c.kinds(t, 5, 2, 5, 6)
	c.kinds(t, 3)
	c.spend(t, 5, 6, 10, api.OK)
	for i, x := range c.k.Info(5) {
		want := keyOf(5, []int{2, 5, 6}[i], 0)
		check, e := mode.Check(want.Value)
		expect(t, "Check", e, api.OK)
		tries := []int{7, 10, 10}[i]
		if x.Set != 5 || x.Kind != want.Kind || x.Tries != tries || !bytes.Equal(x.Check, check) {
			t.Error("Info has", x)
		}
	}
}

// P22.4

func TestSpend(t *testing.T) {
	for limit := 1; limit <= 15; limit++ {
		c := cardWith(t, keyOf(1, 2, limit), keyOf(1, 3, 4), keyOf(2, 2, 4))
		for range 2 {
			for left := limit - 1; left >= 0; left-- {
				c.spend(t, 1, 2, left, api.OK)
				c.get(t, keyOf(1, 2, limit), left)
			}
			c.spend(t, 1, 2, 0, api.ErrBlocked)
			c = mounted(t, c.mem)
			c.spend(t, 1, 2, 0, api.ErrBlocked)
			c.get(t, keyOf(1, 2, limit), 0)
			c.restore(t, 1, 2, api.OK)
			c.get(t, keyOf(1, 2, limit), limit)
			c = mounted(t, c.mem)
			c.get(t, keyOf(1, 2, limit), limit)
		}
		c.restore(t, 1, 2, api.OK) // although all tries are left
		c.get(t, keyOf(1, 2, limit), limit)
		c.get(t, keyOf(1, 3, 4), 4)
		c.get(t, keyOf(2, 2, 4), 4)
	}
}

func TestNoSuchKey(t *testing.T) {
	c := cardWith(t, keyOf(1, 1, 5), keyOf(2, 6, 5))
	writes := c.mem.Writes()
	for _, n := range append(strangeNames, [2]int{1, 2}, [2]int{2, 1}, [2]int{3, 1}) {
		c.none(t, n[0], n[1])
		c.spend(t, n[0], n[1], 0, api.ErrKey)
		c.restore(t, n[0], n[1], api.ErrKey)
	}
	if c.mem.Writes() != writes {
		t.Error("something was written")
	}
}

// TestSpendInTransaction is about tries, which are spent and restored at once.
func TestSpendInTransaction(t *testing.T) {
	c := cardWith(t, keyOf(1, 1, 5), keyOf(1, 2, 5))
	x := keyOf(1, 1, 5)
	c.begin(t)
	c.spend(t, 1, 1, 4, api.OK)
	mounted(t, c.mem).get(t, x, 4)
	c.spend(t, 1, 1, 3, api.OK)
	c.abort(t)
	c.get(t, x, 3)
	c.begin(t)
	c.restore(t, 1, 1, api.OK)
	mounted(t, c.mem).get(t, x, 5)
	c.spend(t, 1, 1, 4, api.OK)
	c.put(t, keyOf(1, 2, 9), api.OK) // another key
	c.spend(t, 1, 1, 3, api.OK)
	mark := c.v.Save()
	c.put(t, keyOf(1, 1, 9), api.OK)
	c.expectChanged(t, 1, 1)
	c.get(t, keyOf(1, 1, 9), 9)
	expect(t, "Back", c.v.Back(mark), api.OK)
	c.get(t, x, 3)
	c.spend(t, 1, 1, 2, api.OK)
	c.put(t, x, api.OK) // the same key
	c.expectChanged(t, 1, 1)
	c.commit(t)
	c.spend(t, 1, 1, 4, api.OK)
	c.restore(t, 1, 1, api.OK)
}

// expectChanged expects that a key was changed in the transaction, so that its tries cannot be.
func (c *card) expectChanged(t *testing.T, set, kind int) {
	t.Helper()
	save, left, writes := c.v.Save(), c.v.Left(), c.mem.Writes()
	c.spend(t, set, kind, 0, api.ErrState)
	c.restore(t, set, kind, api.ErrState)
	if c.v.Save() != save || c.v.Left() != left || c.mem.Writes() != writes {
		t.Fatal("a call that fails has changed something")
	}
}

// TestSpendAfterDelete is about a key that the transaction has deleted, and perhaps created again.
func TestSpendAfterDelete(t *testing.T) {
	c := cardWith(t, keyOf(1, 1, 5))
	c.spend(t, 1, 1, 4, api.OK)
	c.begin(t)
	expect(t, "Delete", c.k.Delete(1), api.OK)
	c.spend(t, 1, 1, 0, api.ErrKey)
	c.restore(t, 1, 1, api.ErrKey)
	c.put(t, keyOf(1, 1, 5), api.OK)
	c.expectChanged(t, 1, 1)
	c.abort(t)
	c.spend(t, 1, 1, 3, api.OK)
	c.begin(t)
	c.put(t, keyOf(2, 1, 5), api.OK)
	c.expectChanged(t, 2, 1)
	c.commit(t)
	c.spend(t, 2, 1, 4, api.OK)
}

// TestBlockedInTransaction is about a key without tries: ErrBlocked comes before ErrState, but Put has restored the tries of a key that the transaction has changed.
func TestBlockedInTransaction(t *testing.T) {
	c := cardWith(t, keyOf(1, 1, 1))
	c.begin(t)
	c.spend(t, 1, 1, 0, api.OK)
	c.spend(t, 1, 1, 0, api.ErrBlocked)
	c.put(t, keyOf(1, 1, 1), api.OK)
	c.expectChanged(t, 1, 1)
	c.abort(t)
	c.spend(t, 1, 1, 0, api.ErrBlocked)
	c.begin(t)
	b, _ := c.v.Get(api.ItemKeys + 9)
	expect(t, "Put", c.v.Put(api.ItemKeys+9, b), api.OK) // by nobody that the document knows
	c.spend(t, 1, 1, 0, api.ErrBlocked)
	c.restore(t, 1, 1, api.ErrState)
}

// TestNoRoomInTransaction is about a transaction that sees more than there is room for, so that no try can be spent.
func TestNoRoomInTransaction(t *testing.T) {
	c := newCard(t, 60*24) // with a room of 672
	c.put(t, keyOf(1, 1, 5), api.OK)
	half := c.v.Room()/2 - 60
	expect(t, "Put", c.v.Put(1, make([]byte, half)), api.OK)
	c.begin(t)
	mark := c.v.Save()
	expect(t, "Put", c.v.Put(2, make([]byte, half)), api.OK)
	expect(t, "Delete", c.v.Delete(1), api.OK)
	expect(t, "Now", c.v.Now(3, make([]byte, 60)), api.OK)
	expect(t, "Back", c.v.Back(mark+1), api.OK)
	c.spend(t, 1, 1, 0, api.ErrFull)
	c.restore(t, 1, 1, api.ErrFull)
	c.abort(t)
	c.spend(t, 1, 1, 4, api.OK)
}

// P22.5

func TestMaster(t *testing.T) {
	for set := 1; set <= 8; set++ {
		master := value(set)
		l, e := keys.Master(set, master)
		if e != api.OK || len(l) != 6 {
			t.Fatal("Master returns", l, e)
		}
		c := cardWith(t, l...)
		for i, x := range l {
			v, e := mode.Derive(value(set), []byte{byte(set), byte(i + 1)})
			expect(t, "Derive", e, api.OK)
			if !same(x, api.Key{Set: set, Kind: i + 1, Value: v, Limit: 10}) {
				t.Error("a key of Master is", x)
			}
			c.get(t, x, 10)
			clear(x.Value) // no two keys share memory
		}
		if !bytes.Equal(master, value(set)) {
			t.Error("the master key was changed")
		}
	}
}

// vector is the values of the keys of the set 3 for a master key of 16 bytes 11, as a separate implementation has computed them.
var vector = [6][16]byte{
	{0xeb, 0x22, 0xa7, 0x82, 0xda, 0x12, 0x8f, 0xb3, 0x1c, 0x18, 0x47, 0x1d, 0x53, 0xec, 0xd6, 0x05},
	{0x40, 0x3b, 0xf6, 0x8c, 0x77, 0x6d, 0xf7, 0x75, 0x96, 0x59, 0x7d, 0x6d, 0x3c, 0xfb, 0x3f, 0xc6},
	{0x7e, 0xe5, 0x17, 0x3f, 0x0d, 0x54, 0x7e, 0xb3, 0x52, 0x22, 0xa8, 0x43, 0xb6, 0x6e, 0xe3, 0x04},
	{0x19, 0x20, 0xb8, 0x8e, 0x07, 0xb6, 0x0f, 0xa8, 0xa1, 0x62, 0x5a, 0xc2, 0xba, 0xae, 0x57, 0xa3},
	{0xc5, 0xa3, 0xf4, 0xdd, 0xef, 0x2c, 0x01, 0xb5, 0x4c, 0xed, 0x00, 0x48, 0xbe, 0xd7, 0x41, 0xc9},
	{0x43, 0x6e, 0x9c, 0xd4, 0xab, 0x78, 0x4a, 0x62, 0x7c, 0xf8, 0x2f, 0x25, 0xc0, 0xfe, 0xc6, 0x36},
}

func TestVectorOfMaster(t *testing.T) {
	l, e := keys.Master(3, slices.Repeat([]byte{0x11}, 16))
	expect(t, "Master", e, api.OK)
	if len(l) != len(vector) {
		t.Fatal("the keys are", l)
	}
	for i, x := range l {
		if !bytes.Equal(x.Value, vector[i][:]) {
			t.Errorf("the value %d is %x and not %x", i, x.Value, vector[i])
		}
	}
}

func TestErrorsOfMaster(t *testing.T) {
	for _, set := range []int{0, -1, 9, 16, 256 + 1, math.MaxInt, math.MinInt} {
		for _, length := range []int{0, 15, 16} { // ErrRange comes before ErrKey
			if l, e := keys.Master(set, make([]byte, length)); len(l) > 0 || e != api.ErrRange {
				t.Error("Master returns", l, e)
			}
		}
	}
	for _, length := range []int{0, 1, 8, 15, 17, 32, 100000} {
		if l, e := keys.Master(1, make([]byte, length)); len(l) > 0 || e != api.ErrKey {
			t.Error("Master returns", l, e)
		}
	}
	if l, e := keys.Master(1, nil); len(l) > 0 || e != api.ErrKey {
		t.Error("Master returns", l, e)
	}
}

// Arguments and results

// TestMemory is about arguments, which are neither changed nor kept, about what lies behind them, and about results, which are new memory.
func TestMemory(t *testing.T) {
	whole := append(value(7), 0xee, 0xee)
	x := api.Key{Set: 1, Kind: 1, Value: whole[:16], Limit: 5}
	c := cardWith(t, x)
	c.begin(t)
	x.Kind = 2
	c.put(t, x, api.OK)
	if !bytes.Equal(whole, append(value(7), 0xee, 0xee)) {
		t.Error("an argument was changed")
	}
	clear(whole)
	c.commit(t)
	for kind := 1; kind <= 2; kind++ {
		got, _ := c.k.Get(1, kind)
		clear(got.Value)
		clear(c.k.Info(1)[kind-1].Check)
		c.get(t, api.Key{Set: 1, Kind: kind, Value: value(7), Limit: 5}, 5)
	}
	check, _ := mode.Check(value(7))
	l := c.k.Info(1)
	if !bytes.Equal(l[0].Check, check) || !bytes.Equal(l[1].Check, check) {
		t.Error("Info is", l)
	}
}
