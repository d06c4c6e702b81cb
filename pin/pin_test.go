package pin_test

import (
	"bytes"
	"math"
	"slices"
	"testing"

	"smartcard/api"
	"smartcard/cell"
	"smartcard/pin"
	"smartcard/vault"
)

const forever = 1 << 40 // an endurance that no test reaches

// card is a memory, and what lies on it.
type card struct {
	mem *cell.Memory
	v   *vault.Vault
	p   *pin.Pins
}

// newCard returns a new card whose memory has a number of words.
func newCard(t *testing.T, words int) *card {
	t.Helper()
	m, _, e := vault.New(api.MemoryConfig{Words: words, Endurance: forever})
	expect(t, "vault.New", e, api.OK)
	return mounted(t, m)
}

// mounted returns the card with a memory that has power.
func mounted(t *testing.T, m *cell.Memory) *card {
	t.Helper()
	v, e := vault.Mount(m)
	expect(t, "Mount", e, api.OK)
	p, e := pin.Open(v)
	if e != api.OK || p == nil {
		t.Fatal("Open returns", p, e)
	}
	return &card{m, v, p}
}

// cardWith returns a new card with PINs.
func cardWith(t *testing.T, l ...api.Pin) *card {
	t.Helper()
	c := newCard(t, 16384)
	for _, d := range l {
		expect(t, "Create", c.p.Create(d), api.OK)
	}
	return c
}

// example is the PIN of the document's first example.
func example() api.Pin {
	return api.Pin{ID: 1, Value: []byte("1234"), Limit: 3, Min: 4, Max: 8, Unblock: []byte("99"), UnblockLimit: 2}
}

// plain returns a PIN without an unblocking code.
func plain(id, limit int, value string) api.Pin {
	return api.Pin{ID: id, Value: []byte(value), Limit: limit, Min: 1, Max: 16}
}

func expect(t *testing.T, what string, got, want api.Errno) {
	t.Helper()
	if got != want {
		t.Fatal(what, "returns", got, "and not", want)
	}
}

// expectTries compares the result of a call that returns a number of tries.
func expectTries(t *testing.T, what string, got int, e api.Errno, want int, wantE api.Errno) {
	t.Helper()
	if got != want || e != wantE {
		t.Fatal(what, "returns", got, e, "and not", want, wantE)
	}
}

func (c *card) verify(t *testing.T, id int, guess string, want int, wantE api.Errno) {
	t.Helper()
	got, e := c.p.Verify(id, []byte(guess))
	expectTries(t, "Verify", got, e, want, wantE)
}

func (c *card) change(t *testing.T, id int, old, value string, want int, wantE api.Errno) {
	t.Helper()
	got, e := c.p.Change(id, []byte(old), []byte(value))
	expectTries(t, "Change", got, e, want, wantE)
}

func (c *card) unblock(t *testing.T, id int, code, value string, want int, wantE api.Errno) {
	t.Helper()
	got, e := c.p.Unblock(id, []byte(code), []byte(value))
	expectTries(t, "Unblock", got, e, want, wantE)
}

func (c *card) set(t *testing.T, id int, value string, want api.Errno) {
	t.Helper()
	expect(t, "Set", c.p.Set(id, []byte(value)), want)
}

// info compares what can be seen of a PIN.
func (c *card) info(t *testing.T, id, tries, unblock, limit int) {
	t.Helper()
	if got, ok := c.p.Info(id); !ok || got != (api.PinInfo{ID: id, Tries: tries, UnblockTries: unblock, Limit: limit}) {
		t.Fatal("Info is", got, ok, "and not", id, tries, unblock, limit)
	}
}

func (c *card) list(t *testing.T, want ...int) {
	t.Helper()
	if l := c.p.List(); !slices.Equal(l, want) {
		t.Fatal("List is", l, "and not", want)
	}
	for id := -1; id <= 10; id++ {
		if got, ok := c.p.Info(id); ok != slices.Contains(want, id) || !ok && got != (api.PinInfo{}) {
			t.Fatal("Info of", id, "is", got, ok)
		}
	}
}

func (c *card) begin(t *testing.T) { t.Helper(); expect(t, "Begin", c.v.Begin(), api.OK) }

func (c *card) commit(t *testing.T) { t.Helper(); expect(t, "Commit", c.v.Commit(), api.OK) }

func (c *card) abort(t *testing.T) { t.Helper(); expect(t, "Abort", c.v.Abort(), api.OK) }

// strangeNumbers are no numbers of PINs.
var strangeNumbers = []int{0, -1, -8, 9, 16, 17, 48, 256, math.MaxInt, math.MinInt, math.MaxInt - 15, math.MinInt + 25}

// Examples

func TestExampleOfCounters(t *testing.T) {
	c := cardWith(t, example())
	c.verify(t, 1, "0", 2, api.ErrWrong)
	c.unblock(t, 1, "8", "5555", 1, api.ErrWrong)
	c.unblock(t, 1, "99", "5555", 3, api.OK)
	c.info(t, 1, 3, 2, 3)
}

func TestExampleOfTransactions(t *testing.T) {
	c := cardWith(t, example())
	c.begin(t)
	c.verify(t, 1, "4321", 2, api.ErrWrong)
	c.abort(t)
	c.info(t, 1, 2, 2, 3)
	c.begin(t)
	c.set(t, 1, "77777", api.OK)
	c.verify(t, 1, "77777", 0, api.ErrState)
	c.commit(t)
	c.verify(t, 1, "77777", 3, api.OK)
}

// Objects

// allCalls makes all calls that have an error, with a definition that is not valid and arguments that would be errors.
func allCalls(p *pin.Pins, id int, see func(what string, n int, e api.Errno)) {
	see("Create", 0, p.Create(api.Pin{ID: id, Limit: -1}))
	see("Delete", 0, p.Delete(id))
	n, e := p.Verify(id, nil)
	see("Verify", n, e)
	n, e = p.Change(id, nil, nil)
	see("Change", n, e)
	n, e = p.Unblock(id, nil, nil)
	see("Unblock", n, e)
	see("Set", 0, p.Set(id, nil))
}

// expectUnusable expects that all calls return an error, or nothing.
func expectUnusable(t *testing.T, p *pin.Pins, want api.Errno) {
	t.Helper()
	for _, id := range append(strangeNumbers, 1, 2, 8) {
		allCalls(p, id, func(what string, n int, e api.Errno) {
			t.Helper()
			expectTries(t, what, n, e, 0, want)
		})
		if x, ok := p.Info(id); ok || x != (api.PinInfo{}) {
			t.Fatal("Info is", x, ok)
		}
	}
	expect(t, "Create", p.Create(example()), want)
	if l := p.List(); len(l) > 0 {
		t.Fatal("List is", l)
	}
}

func TestNoPins(t *testing.T) {
	expectUnusable(t, nil, api.ErrNil)
	expectUnusable(t, &pin.Pins{}, api.ErrNil)
}

func TestNoPower(t *testing.T) {
	c := cardWith(t, example(), plain(2, 1, "x"))
	c.mem.Cut(0)
	expect(t, "Set", c.p.Set(1, []byte("5555")), api.ErrPower)
	expectUnusable(t, c.p, api.ErrPower)
	c.mem.Restore()
	expectUnusable(t, c.p, api.ErrPower)
	d := mounted(t, c.mem)
	d.list(t, 1, 2)
	d.verify(t, 1, "1234", 3, api.OK)
}

// TestTwoObjects opens the PINs of a vault twice: a change through one of them is seen through the other.
func TestTwoObjects(t *testing.T) {
	c := cardWith(t, example())
	p, e := pin.Open(c.v)
	expect(t, "Open", e, api.OK)
	d := &card{c.mem, c.v, p}
	d.verify(t, 1, "x", 2, api.ErrWrong)
	c.verify(t, 1, "x", 1, api.ErrWrong)
	d.info(t, 1, 1, 2, 3)
	c.begin(t)
	d.set(t, 1, "5555", api.OK)
	c.verify(t, 1, "5555", 0, api.ErrState)
	c.unblock(t, 1, "99", "5555", 0, api.ErrState)
	expect(t, "Create", d.p.Create(plain(2, 1, "x")), api.OK)
	c.list(t, 1, 2)
	c.abort(t)
	c.list(t, 1)
	d.info(t, 1, 1, 2, 3)
}

// P21.1

func TestOpen(t *testing.T) {
	c := newCard(t, 16384)
	c.list(t)
	expect(t, "Create", c.p.Create(example()), api.OK)
	c.verify(t, 1, "x", 2, api.ErrWrong)
	ids, writes := c.v.IDs(), c.mem.Writes()
	p, e := pin.Open(c.v)
	expect(t, "Open", e, api.OK)
	(&card{c.mem, c.v, p}).info(t, 1, 2, 2, 3)
	if !slices.Equal(c.v.IDs(), ids) || c.mem.Writes() != writes {
		t.Error("Open has changed something")
	}
	d := mounted(t, c.mem)
	d.list(t, 1)
	d.info(t, 1, 2, 2, 3)
	_, v, e := vault.New(api.MemoryConfig{Words: 16384, Endurance: forever})
	expect(t, "New", e, api.OK)
	if p, e := pin.Open(v); p == nil || e != api.OK || len(v.IDs()) > 0 {
		t.Error("Open returns", p, e, "and the items are", v.IDs())
	}
}

func TestErrorsOfOpen(t *testing.T) {
	expectNone := func(what string, v *vault.Vault, want api.Errno) {
		t.Helper()
		if p, e := pin.Open(v); p != nil || e != want {
			t.Error("Open of", what, "returns", p, e)
		}
	}
	expectNone("nil", nil, api.ErrNil)
	expectNone("a vault that is none", &vault.Vault{}, api.ErrPower)
	c := newCard(t, 16384)
	c.mem.Cut(0)
	expect(t, "Put", c.v.Put(1, nil), api.ErrPower)
	expectNone("a vault without power", c.v, api.ErrPower)
	c.mem.Restore()
	expectNone("a vault that had no power", c.v, api.ErrPower)
}

// P21.2

// definition returns the definition of a PIN with values of some lengths.
func definition(id, length, limit, least, most, unblock, unblockLimit int) api.Pin {
	return api.Pin{ID: id, Value: bytes.Repeat([]byte{7}, length), Limit: limit, Min: least, Max: most, Unblock: bytes.Repeat([]byte{8}, unblock), UnblockLimit: unblockLimit}
}

func TestValidDefinitions(t *testing.T) {
	for _, d := range []api.Pin{
		definition(1, 1, 1, 1, 1, 0, 0),
		definition(8, 1, 1, 1, 1, 1, 1),
		definition(2, 16, 15, 1, 16, 16, 15),
		definition(3, 16, 15, 16, 16, 1, 15),
		definition(4, 1, 15, 1, 16, 16, 1),
		definition(5, 4, 3, 4, 8, 8, 10),
		definition(6, 8, 3, 4, 8, 3, 2),
		definition(7, 5, 3, 4, 8, 0, 0),
	} {
		c := cardWith(t, d)
		c.list(t, d.ID)
		c.info(t, d.ID, d.Limit, d.UnblockLimit, d.Limit)
		c.verify(t, d.ID, string(d.Value), d.Limit, api.OK)
		c = mounted(t, c.mem)
		c.info(t, d.ID, d.Limit, d.UnblockLimit, d.Limit)
		c.verify(t, d.ID, string(d.Value), d.Limit, api.OK)
		if d.UnblockLimit > 0 {
			c.unblock(t, d.ID, string(d.Unblock), string(d.Value), d.Limit, api.OK)
		}
	}
}

// invalidDefinitions are definitions in each of which one thing is wrong.
func invalidDefinitions() []api.Pin {
	l := []api.Pin{
		{},
		definition(1, 4, 0, 4, 8, 2, 2),
		definition(1, 4, -1, 4, 8, 2, 2),
		definition(1, 4, 16, 4, 8, 2, 2),
		definition(1, 4, 256+3, 4, 8, 2, 2),
		definition(1, 4, 3, 0, 8, 2, 2),
		definition(1, 0, 3, 0, 8, 2, 2),
		definition(1, 4, 3, -1, 8, 2, 2),
		definition(1, 4, 3, 5, 4, 2, 2),
		definition(1, 5, 3, 5, 4, 2, 2),
		definition(1, 4, 3, 4, 17, 2, 2),
		definition(1, 17, 3, 4, 17, 2, 2),
		definition(1, 17, 3, 4, 16, 2, 2),
		definition(1, 3, 3, 4, 8, 2, 2),
		definition(1, 0, 3, 4, 8, 2, 2),
		definition(1, 9, 3, 4, 8, 2, 2),
		definition(1, 260, 3, 4, 8, 2, 2),
		definition(1, 4, 3, 4, 256+8, 2, 2),
		definition(1, 4, 3, 4, math.MaxInt, 2, 2),
		definition(1, 4, 3, math.MinInt, 8, 2, 2),
		definition(1, 4, math.MaxInt, 4, 8, 2, 2),
		definition(1, 4, 3, 4, 8, 0, 1),
		definition(1, 4, 3, 4, 8, 0, -1),
		definition(1, 4, 3, 4, 8, 0, 256),
		definition(1, 4, 3, 4, 8, 1, 0),
		definition(1, 4, 3, 4, 8, 1, -1),
		definition(1, 4, 3, 4, 8, 1, 16),
		definition(1, 4, 3, 4, 8, 17, 2),
		definition(1, 4, 3, 4, 8, 17, 0),
		definition(1, 4, 3, 4, 8, 256, 2),
	}
	for _, id := range strangeNumbers {
		l = append(l, definition(id, 4, 3, 4, 8, 2, 2))
	}
	return l
}

func TestInvalidDefinitions(t *testing.T) {
	c, d := cardWith(t), cardWith(t, definition(1, 4, 3, 4, 8, 2, 2))
	writes := c.mem.Writes()
	for _, x := range invalidDefinitions() {
		expect(t, "Create", c.p.Create(x), api.ErrArg)
		expect(t, "Create", d.p.Create(x), api.ErrArg) // before ErrTwice
	}
	c.list(t)
	d.list(t, 1)
	if c.mem.Writes() != writes || len(c.v.IDs()) > 0 {
		t.Error("something was written")
	}
}

func TestCreate(t *testing.T) {
	c := cardWith(t)
	for i, id := range []int{5, 1, 8, 3, 2, 7, 4, 6} {
		d := definition(id, 16, 15, 1, 16, 16, 15)
		d.Value[0], d.Unblock[0] = byte(id), byte(id)
		expect(t, "Create", c.p.Create(d), api.OK)
		expect(t, "Create", c.p.Create(plain(id, 2, "x")), api.ErrTwice)
		if len(c.p.List()) != i+1 || !slices.IsSorted(c.p.List()) {
			t.Error("List is", c.p.List())
		}
	}
	c.list(t, 1, 2, 3, 4, 5, 6, 7, 8)
	for id := 1; id <= 8; id++ {
		d := definition(id, 16, 15, 1, 16, 16, 15)
		d.Value[0], d.Unblock[0] = byte(id), byte(id)
		c.info(t, id, 15, 15, 15)
		c.verify(t, id, string(d.Value), 15, api.OK)
		c.unblock(t, id, string(d.Unblock), "x", 15, api.OK)
	}
}

// TestItems is about the items of PINs, whose numbers and lengths are limited.
func TestItems(t *testing.T) {
	c := cardWith(t)
	expect(t, "Put", c.v.Put(api.ItemPins-1, []byte{1}), api.OK)
	expect(t, "Put", c.v.Put(api.ItemKeys, []byte{1}), api.OK)
	for id := 1; id <= 8; id++ {
		before := c.v.IDs()
		expect(t, "Create", c.p.Create(definition(id, 2*id, 3, 1, 16, 16, 15)), api.OK)
		definitions, counters := 0, 0
		for _, item := range c.v.IDs() {
			if slices.Contains(before, item) {
				continue
			}
			b, _ := c.v.Get(item)
			switch {
			case item < api.ItemPins || item >= api.ItemKeys:
				t.Error("the item is", item)
			case len(b) <= 4:
				counters++
			case len(b) <= 2*id+16+16:
				definitions++
			default:
				t.Errorf("an item is %x", b)
			}
		}
		if definitions != 1 || counters < 1 || counters > 2 {
			t.Error("the numbers of definitions and counters are", definitions, counters)
		}
	}
	for id := range 9 {
		c.p.Delete(id)
	}
	if ids := c.v.IDs(); !slices.Equal(ids, []int{api.ItemPins - 1, api.ItemKeys}) {
		t.Error("items remain:", ids)
	}
}

func TestDelete(t *testing.T) {
	c := cardWith(t, example(), plain(2, 2, "a"), plain(8, 2, "b"))
	for _, id := range append(strangeNumbers, 3, 7) {
		expect(t, "Delete", c.p.Delete(id), api.ErrNone)
	}
	c.verify(t, 1, "x", 2, api.ErrWrong)
	c.verify(t, 2, "x", 1, api.ErrWrong)
	expect(t, "Delete", c.p.Delete(1), api.OK)
	expect(t, "Delete", c.p.Delete(1), api.ErrNone)
	c.list(t, 2, 8)
	c.info(t, 2, 1, 0, 2)
	c.verify(t, 1, "1234", 0, api.ErrNone)
	expect(t, "Create", c.p.Create(plain(1, 9, "new")), api.OK)
	c.list(t, 1, 2, 8)
	c.info(t, 1, 9, 0, 9)
	c.verify(t, 1, "1234", 8, api.ErrWrong)
	c.verify(t, 1, "new", 9, api.OK)
	c.verify(t, 2, "x", 0, api.ErrWrong)
	expect(t, "Delete", c.p.Delete(2), api.OK) // although it is blocked
	mounted(t, c.mem).list(t, 1, 8)
}

// TestNoRoom is about a vault that is too small for a PIN, for which two items are needed.
func TestNoRoom(t *testing.T) {
	full, fine := 0, 0
	for size := range 170 {
		c := newCard(t, 40*24) // with a room of 192
		expect(t, "Put", c.v.Put(1, make([]byte, size)), api.OK)
		e := c.p.Create(example())
		if e == api.OK {
			fine++
			c.list(t, 1)
			c.verify(t, 1, "x", 2, api.ErrWrong) // for which no more room is needed
			c.verify(t, 1, "1234", 3, api.OK)
			continue
		}
		full++
		expect(t, "Create", e, api.ErrFull)
		c.list(t)
		if len(c.v.IDs()) != 1 || c.v.Active() {
			t.Fatal("the items are", c.v.IDs())
		}
	}
	if full == 0 || fine == 0 {
		t.Error("one of these has never happened:", full, fine)
	}
}

// TestNoRoomForLongerValue is about a value that makes a PIN longer.
func TestNoRoomForLongerValue(t *testing.T) {
	full := 0
	for size := range 170 {
		c := newCard(t, 40*24)
		expect(t, "Create", c.p.Create(example()), api.OK)
		if c.v.Put(1, make([]byte, size)) != api.OK {
			break
		}
		c.verify(t, 1, "x", 2, api.ErrWrong)
		if e := c.p.Set(1, []byte("12345678")); e == api.OK {
			continue
		}
		full++
		c.set(t, 1, "12345678", api.ErrFull)
		c.info(t, 1, 2, 2, 3)
		c.change(t, 1, "1234", "12345678", 0, api.ErrFull)
		c.info(t, 1, 3, 2, 3) // the tries were restored
		c.unblock(t, 1, "x", "12345678", 1, api.ErrWrong)
		c.unblock(t, 1, "99", "12345678", 0, api.ErrFull)
		c.info(t, 1, 3, 2, 3)
		c.verify(t, 1, "1234", 3, api.OK)
	}
	if full != 4 {
		t.Error("there was no room for 4 more bytes", full, "times")
	}
}

// leave fills the commit buffer, so that a number of bytes are left.
func (c *card) leave(t *testing.T, left int) {
	t.Helper()
	for id := 3000; c.v.Left() > left; id++ {
		n := c.v.Left() - left - 8
		if n > api.MaxItem {
			n = api.MaxItem - 8 // so that enough remains for another item
		}
		expect(t, "Put", c.v.Put(id, make([]byte, n)), api.OK)
	}
}

// TestFullCommitBuffer is about transactions in which there is not enough left of the commit buffer for both items of a PIN.
func TestFullCommitBuffer(t *testing.T) {
	failed, fine := 0, 0
	for left := range 60 {
		c := cardWith(t, example(), plain(3, 2, "a"))
		c.begin(t)
		c.leave(t, left)
		save := c.v.Save()
		c.verify(t, 1, "x", 2, api.ErrWrong) // for which the commit buffer is not needed
		c.info(t, 1, 2, 2, 3)
		if c.p.Create(plain(2, 2, "bc")) == api.OK {
			fine++
			c.verify(t, 2, "bc", 0, api.ErrState)
			continue
		}
		failed++
		expect(t, "Create", c.p.Create(plain(2, 2, "bc")), api.ErrBuffer)
		c.list(t, 1, 3)
		if left < 2*8 { // a transaction needs that much for two items
			expect(t, "Delete", c.p.Delete(3), api.ErrBuffer)
			c.list(t, 1, 3)
		}
		c.set(t, 1, "5555", api.ErrBuffer)
		c.info(t, 1, 2, 2, 3)
		c.change(t, 1, "1234", "5555", 0, api.ErrBuffer)
		c.info(t, 1, 3, 2, 3) // the tries were restored, and the PIN is not fresh
		c.unblock(t, 1, "99", "5555", 0, api.ErrBuffer)
		if c.v.Save() != save || c.v.Left() != left {
			t.Fatal("Save and Left are", c.v.Save(), c.v.Left())
		}
		c.verify(t, 1, "1234", 3, api.OK)
		c.commit(t)
		c.verify(t, 1, "1234", 3, api.OK)
	}
	if failed < 16 || fine == 0 {
		t.Error("one of these has never happened:", failed, fine)
	}
}

// P21.3

func TestVerify(t *testing.T) {
	for limit := 1; limit <= 15; limit++ {
		c := cardWith(t, plain(1, limit, "right"), plain(2, 4, "other"))
		for wrong := range limit {
			for left := limit - 1; left >= limit-wrong; left-- {
				c.verify(t, 1, "wrong", left, api.ErrWrong)
			}
			c.info(t, 1, limit-wrong, 0, limit)
			c.verify(t, 1, "right", limit, api.OK)
			c.info(t, 1, limit, 0, limit)
		}
		for left := limit - 1; left >= 0; left-- {
			c.verify(t, 1, "wrong", left, api.ErrWrong)
		}
		c.verify(t, 1, "wrong", 0, api.ErrBlocked)
		c.verify(t, 1, "right", 0, api.ErrBlocked)
		c.change(t, 1, "right", "new", 0, api.ErrBlocked)
		c = mounted(t, c.mem)
		c.verify(t, 1, "right", 0, api.ErrBlocked)
		c.info(t, 1, 0, 0, limit)
		c.info(t, 2, 4, 0, 4)
	}
}

func TestGuesses(t *testing.T) {
	for _, guess := range []string{"", "1", "123", "12345", "1235", "0234", "\x001234", "1234\x00", "99", "4321", string(make([]byte, 4)), string(make([]byte, 100000))} {
		c := cardWith(t, example())
		c.verify(t, 1, guess, 2, api.ErrWrong)
		c.verify(t, 1, "1234", 3, api.OK)
		c.change(t, 1, guess, "4321", 2, api.ErrWrong)
		if guess != "99" {
			c.unblock(t, 1, guess, "4321", 1, api.ErrWrong)
		}
		c.verify(t, 1, "1234", 3, api.OK)
	}
}

func TestNoSuchPin(t *testing.T) {
	c := cardWith(t, example())
	for _, id := range append(strangeNumbers, 2, 7, 8) {
		c.verify(t, id, "1234", 0, api.ErrNone)
		c.change(t, id, "1234", "5555", 0, api.ErrNone)
		c.change(t, id, "", "", 0, api.ErrNone) // before ErrRange
		c.unblock(t, id, "99", "5555", 0, api.ErrNone)
		c.unblock(t, id, "", "", 0, api.ErrNone)
		c.set(t, id, "5555", api.ErrNone)
		c.set(t, id, "", api.ErrNone)
	}
	c.list(t, 1)
	c.info(t, 1, 3, 2, 3)
}

// P21.4

func TestChange(t *testing.T) {
	c := cardWith(t, example())
	c.change(t, 1, "1234", "55555555", 3, api.OK)
	c.verify(t, 1, "1234", 2, api.ErrWrong)
	c.change(t, 1, "1234", "6666", 1, api.ErrWrong)
	c.info(t, 1, 1, 2, 3)
	c.change(t, 1, "55555555", "6666", 3, api.OK)
	c.info(t, 1, 3, 2, 3)
	c.unblock(t, 1, "x", "6666", 1, api.ErrWrong)
	c.change(t, 1, "6666", "6666", 3, api.OK)
	c.info(t, 1, 3, 1, 3) // the unblocking tries stay as they were
	for left := 2; left >= 0; left-- {
		c.change(t, 1, "7777", "6666", left, api.ErrWrong)
	}
	c.change(t, 1, "6666", "7777", 0, api.ErrBlocked)
	c.unblock(t, 1, "99", "8888", 3, api.OK)
	c = mounted(t, c.mem)
	c.verify(t, 1, "8888", 3, api.OK)
}

func TestLengthsOfValues(t *testing.T) {
	c := cardWith(t, example())
	for n := range 20 {
		value := string(bytes.Repeat([]byte{'5'}, n))
		if n >= 4 && n <= 8 {
			c.change(t, 1, "1234", value, 3, api.OK)
			c.set(t, 1, "1234", api.OK)
			c.unblock(t, 1, "99", value, 3, api.OK)
			c.verify(t, 1, value, 3, api.OK)
			c.set(t, 1, "1234", api.OK)
			continue
		}
		c.change(t, 1, "1234", value, 0, api.ErrRange)
		c.change(t, 1, "4321", value, 0, api.ErrRange) // no try is spent
		c.unblock(t, 1, "99", value, 0, api.ErrRange)
		c.unblock(t, 1, "88", value, 0, api.ErrRange)
		c.set(t, 1, value, api.ErrRange)
		c.info(t, 1, 3, 2, 3)
		c.verify(t, 1, "1234", 3, api.OK)
	}
	for range 3 {
		c.verify(t, 1, "x", 2, api.ErrWrong)
		c.change(t, 1, "x", "123", 0, api.ErrRange)
		c.verify(t, 1, "x", 1, api.ErrWrong)
		c.verify(t, 1, "x", 0, api.ErrWrong)
		c.change(t, 1, "x", "123", 0, api.ErrRange) // before ErrBlocked
		c.set(t, 1, "1234", api.OK)
	}
}

// P21.5

func TestUnblock(t *testing.T) {
	c := cardWith(t, example())
	for range 3 {
		c.verify(t, 1, "x", 2, api.ErrWrong)
		c.verify(t, 1, "x", 1, api.ErrWrong)
		c.verify(t, 1, "x", 0, api.ErrWrong)
		c.unblock(t, 1, "88", "5555", 1, api.ErrWrong)
		c.info(t, 1, 0, 1, 3)
		c.verify(t, 1, "1234", 0, api.ErrBlocked)
		c.unblock(t, 1, "99", "1234", 3, api.OK)
		c.info(t, 1, 3, 2, 3)
		c.verify(t, 1, "1234", 3, api.OK)
	}
	c.unblock(t, 1, "99", "5555", 3, api.OK) // although it is not blocked
	c.verify(t, 1, "1234", 2, api.ErrWrong)
	c.unblock(t, 1, "1234", "1234", 1, api.ErrWrong)
	c.unblock(t, 1, "", "1234", 0, api.ErrWrong)
	c.info(t, 1, 2, 0, 3)
	c.unblock(t, 1, "99", "1234", 0, api.ErrBlocked)
	c.unblock(t, 1, "99", "123", 0, api.ErrRange) // before ErrBlocked
	c.set(t, 1, "6666", api.OK)
	c.info(t, 1, 3, 0, 3) // Set does not restore the unblocking tries
	c = mounted(t, c.mem)
	c.unblock(t, 1, "99", "1234", 0, api.ErrBlocked)
	c.verify(t, 1, "6666", 3, api.OK)
}

func TestNoUnblockingCode(t *testing.T) {
	c := cardWith(t, plain(1, 2, "a"))
	c.unblock(t, 1, "", "b", 0, api.ErrKey)
	c.unblock(t, 1, "a", "b", 0, api.ErrKey)
	c.unblock(t, 1, "a", "", 0, api.ErrKey) // before ErrRange
	c.begin(t)
	c.set(t, 1, "c", api.OK)
	c.unblock(t, 1, "a", "b", 0, api.ErrKey) // before ErrState
	c.abort(t)
	c.info(t, 1, 2, 0, 2)
}

// TestUnblockingTries is about all limits of unblocking tries.
func TestUnblockingTries(t *testing.T) {
	for limit := 1; limit <= 15; limit++ {
		d := example()
		d.UnblockLimit = limit
		c := cardWith(t, d)
		for left := limit - 1; left >= 1; left-- {
			c.unblock(t, 1, "98", "5555", left, api.ErrWrong)
			c.info(t, 1, 3, left, 3)
		}
		c.unblock(t, 1, "99", "5555", 3, api.OK)
		c.info(t, 1, 3, limit, 3)
		for left := limit - 1; left >= 0; left-- {
			c.unblock(t, 1, "", "5555", left, api.ErrWrong)
		}
		c.unblock(t, 1, "99", "5555", 0, api.ErrBlocked)
		c.info(t, 1, 3, 0, 3)
	}
}

// P21.6

func TestSet(t *testing.T) {
	c := cardWith(t, example(), plain(2, 1, "a"))
	c.verify(t, 1, "x", 2, api.ErrWrong)
	c.set(t, 1, "12345678", api.OK)
	c.info(t, 1, 3, 2, 3)
	c.verify(t, 1, "1234", 2, api.ErrWrong)
	c.verify(t, 1, "12345678", 3, api.OK)
	c.verify(t, 2, "b", 0, api.ErrWrong)
	c.set(t, 2, "", api.ErrRange)
	c.set(t, 2, string(make([]byte, 17)), api.ErrRange)
	c.verify(t, 2, "a", 0, api.ErrBlocked)
	c.set(t, 2, string(make([]byte, 16)), api.OK)
	c.verify(t, 2, string(make([]byte, 16)), 1, api.OK)
	c.verify(t, 1, "12345678", 3, api.OK)
}

// Fresh PINs

// TestFresh is about what makes a PIN fresh: its tries cannot be spent before the transaction is committed.
func TestFresh(t *testing.T) {
	renew := func(c *card) {
		expect(t, "Delete", c.p.Delete(1), api.OK)
		expect(t, "Create", c.p.Create(example()), api.OK)
	}
	for _, replace := range []func(c *card){
		func(c *card) { c.set(t, 1, "1234", api.OK) },
		func(c *card) { c.change(t, 1, "1234", "1234", 3, api.OK) },
		func(c *card) { c.unblock(t, 1, "99", "1234", 3, api.OK) },
		renew,
		func(c *card) { renew(c); c.set(t, 1, "1234", api.OK) },
		func(c *card) { c.set(t, 1, "1234", api.OK); renew(c) },
		func(c *card) { c.set(t, 1, "4321", api.OK); c.set(t, 1, "1234", api.OK) },
	} {
		c := cardWith(t, example(), plain(2, 3, "a"))
		replace(c)
		c.verify(t, 1, "1234", 3, api.OK) // without a transaction no PIN is fresh
		c.begin(t)
		c.verify(t, 1, "1234", 3, api.OK)
		mark := c.v.Save()
		replace(c)
		c.expectFresh(t)
		c.verify(t, 2, "b", 2, api.ErrWrong) // another one is not fresh
		c.info(t, 2, 2, 0, 3)
		expect(t, "Back", c.v.Back(mark), api.OK)
		c.verify(t, 1, "1234", 3, api.OK)
		replace(c)
		c.expectFresh(t)
		c.abort(t)
		c.verify(t, 1, "1234", 3, api.OK)
		c.begin(t)
		replace(c)
		c.expectFresh(t)
		c.set(t, 1, "55555", api.OK) // is permitted also if it is fresh
		c.commit(t)
		c.verify(t, 1, "x", 2, api.ErrWrong)
		c.verify(t, 1, "55555", 3, api.OK)
	}
}

// expectFresh expects that the PIN 1 is fresh, and has all of its tries.
func (c *card) expectFresh(t *testing.T) {
	t.Helper()
	save, left, writes := c.v.Save(), c.v.Left(), c.mem.Writes()
	c.info(t, 1, 3, 2, 3)
	for _, guess := range []string{"1234", "x", ""} {
		c.verify(t, 1, guess, 0, api.ErrState)
		c.change(t, 1, guess, "5555", 0, api.ErrState)
		c.unblock(t, 1, guess, "5555", 0, api.ErrState)
	}
	c.unblock(t, 1, "99", "5555", 0, api.ErrState)
	c.change(t, 1, "1234", "555", 0, api.ErrRange) // before ErrState
	c.unblock(t, 1, "99", "555", 0, api.ErrRange)
	c.info(t, 1, 3, 2, 3)
	if c.v.Save() != save || c.v.Left() != left || c.mem.Writes() != writes {
		t.Fatal("a call that fails has changed something")
	}
}

// TestFreshFromCreate is about a PIN that the transaction has created.
func TestFreshFromCreate(t *testing.T) {
	c := cardWith(t)
	c.begin(t)
	expect(t, "Create", c.p.Create(example()), api.OK)
	c.expectFresh(t)
	c.list(t, 1)
	c.abort(t)
	c.list(t)
	c.verify(t, 1, "1234", 0, api.ErrNone)
	c.begin(t)
	expect(t, "Create", c.p.Create(example()), api.OK)
	expect(t, "Create", c.p.Create(example()), api.ErrTwice)
	c.commit(t)
	c.verify(t, 1, "1234", 3, api.OK)
}

// TestFreshWithoutUnblockingTries is about a PIN that is fresh, and has no unblocking tries: ErrState comes before ErrBlocked.
func TestFreshWithoutUnblockingTries(t *testing.T) {
	c := cardWith(t, example())
	c.unblock(t, 1, "x", "5555", 1, api.ErrWrong)
	c.unblock(t, 1, "x", "5555", 0, api.ErrWrong)
	c.begin(t)
	writes := c.mem.Writes()
	c.unblock(t, 1, "99", "5555", 0, api.ErrBlocked)
	c.set(t, 1, "5555", api.OK)
	c.unblock(t, 1, "99", "5555", 0, api.ErrState)
	if c.mem.Writes() != writes {
		t.Error("something was written")
	}
	c.commit(t)
	c.unblock(t, 1, "99", "5555", 0, api.ErrBlocked)
	c.verify(t, 1, "5555", 3, api.OK)
}

// TestFreshInFullBuffer is about transactions that have little or nothing left of the commit buffer.
func TestFreshInFullBuffer(t *testing.T) {
	for left := range 20 {
		c := cardWith(t, example(), plain(2, 3, "a"))
		c.begin(t)
		c.set(t, 1, "1234", api.OK)
		c.leave(t, left)
		c.expectFresh(t)
		c.verify(t, 2, "b", 2, api.ErrWrong)
		c.verify(t, 2, "a", 3, api.OK)
		if c.v.Left() != left {
			t.Error("Left is", c.v.Left())
		}
	}
}

// TestNoRoomInTransaction is about a transaction that sees more than there is room for, so that no try can be spent.
func TestNoRoomInTransaction(t *testing.T) {
	c := newCard(t, 60*24) // with a room of 672
	expect(t, "Create", c.p.Create(example()), api.OK)
	half := c.v.Room()/2 - 60
	expect(t, "Put", c.v.Put(1, make([]byte, half)), api.OK)
	c.begin(t)
	mark := c.v.Save()
	expect(t, "Put", c.v.Put(2, make([]byte, half)), api.OK)
	expect(t, "Delete", c.v.Delete(1), api.OK)
	expect(t, "Now", c.v.Now(3, make([]byte, 60)), api.OK)
	expect(t, "Back", c.v.Back(mark+1), api.OK)
	c.verify(t, 1, "x", 0, api.ErrFull) // nothing was compared
	c.verify(t, 1, "1234", 0, api.ErrFull)
	c.change(t, 1, "1234", "5555", 0, api.ErrFull)
	c.unblock(t, 1, "99", "5555", 0, api.ErrFull)
	c.info(t, 1, 3, 2, 3)
	c.abort(t)
	c.verify(t, 1, "x", 2, api.ErrWrong)
}

// P21.7

func TestInfoInTransaction(t *testing.T) {
	c := cardWith(t, example(), plain(4, 2, "a"))
	c.verify(t, 1, "x", 2, api.ErrWrong)
	c.begin(t)
	c.set(t, 1, "5555", api.OK)
	c.info(t, 1, 3, 2, 3)
	expect(t, "Delete", c.p.Delete(4), api.OK)
	expect(t, "Create", c.p.Create(plain(8, 7, "b")), api.OK)
	expect(t, "Create", c.p.Create(plain(3, 6, "b")), api.OK)
	c.list(t, 1, 3, 8)
	c.info(t, 8, 7, 0, 7)
	c.verify(t, 4, "a", 0, api.ErrNone)
	d := mounted(t, c.mem) // which sees nothing of the transaction
	d.list(t, 1, 4)
	d.info(t, 1, 2, 2, 3)
	c.abort(t)
	c.list(t, 1, 4)
	c.info(t, 1, 2, 2, 3)
	c.verify(t, 4, "a", 2, api.OK)
}

// P21.8

func TestAtOnce(t *testing.T) {
	c := cardWith(t, example())
	c.begin(t)
	c.verify(t, 1, "x", 2, api.ErrWrong)
	c.change(t, 1, "x", "5555", 1, api.ErrWrong)
	c.unblock(t, 1, "x", "5555", 1, api.ErrWrong)
	mounted(t, c.mem).info(t, 1, 1, 1, 3)
	c.abort(t)
	c.info(t, 1, 1, 1, 3)
	c.begin(t)
	c.verify(t, 1, "1234", 3, api.OK)
	mounted(t, c.mem).info(t, 1, 3, 1, 3)
	c.verify(t, 1, "x", 2, api.ErrWrong)
	c.change(t, 1, "1234", "5555", 3, api.OK)
	mounted(t, c.mem).info(t, 1, 3, 1, 3)
	c.abort(t)
	c.info(t, 1, 3, 1, 3)
	c.verify(t, 1, "5555", 2, api.ErrWrong) // the value was not replaced
	c.begin(t)
	c.unblock(t, 1, "99", "5555", 3, api.OK)
	c.abort(t)
	c.info(t, 1, 2, 2, 3) // but the unblocking tries were restored
	c.verify(t, 1, "1234", 3, api.OK)
}

// Arguments

// fenced returns a slice with some bytes and others behind them, and a function that reports whether all are as they were.
func fenced(text string) ([]byte, func() bool) {
	whole := append([]byte(text), 0xee, 0xee, 0xee, 0xee)
	before := bytes.Clone(whole)
	return whole[:len(text)], func() bool { return bytes.Equal(whole, before) }
}

// TestArguments is about arguments, which are neither changed nor kept, and about what lies behind them.
func TestArguments(t *testing.T) {
	value, value1 := fenced("1234")
	code, code1 := fenced("99")
	other, other1 := fenced("5555")
	c := cardWith(t)
	d := example()
	d.Value, d.Unblock = value, code
	expect(t, "Create", c.p.Create(d), api.OK)
	n, e := c.p.Change(1, value, other)
	expectTries(t, "Change", n, e, 3, api.OK)
	n, e = c.p.Unblock(1, code, value)
	expectTries(t, "Unblock", n, e, 3, api.OK)
	n, e = c.p.Verify(1, value)
	expectTries(t, "Verify", n, e, 3, api.OK)
	c.begin(t)
	expect(t, "Set", c.p.Set(1, other), api.OK)
	if !value1() || !code1() || !other1() {
		t.Error("an argument was changed")
	}
	clear(value)
	clear(code)
	clear(other)
	c.commit(t)
	c.verify(t, 1, "5555", 3, api.OK)
	c.unblock(t, 1, "99", "1234", 3, api.OK)
	c.verify(t, 1, "1234", 3, api.OK)
	l := c.p.List()
	l[0] = 7
	c.list(t, 1)
}
