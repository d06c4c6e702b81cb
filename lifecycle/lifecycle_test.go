package lifecycle_test

import (
	"math"
	"math/rand/v2"
	"slices"
	"testing"

	"smartcard/api"
	"smartcard/cell"
	"smartcard/lifecycle"
	"smartcard/vault"
)

const forever = 1 << 40 // an endurance that no test reaches

// card is a memory, and what lies on it.
type card struct {
	mem *cell.Memory
	v   *vault.Vault
	l   *lifecycle.Life
}

// newCard returns a new card whose memory has a number of words.
func newCard(t *testing.T, words int) *card {
	t.Helper()
	m, _, e := vault.New(api.MemoryConfig{Words: words, Endurance: forever})
	expect(t, "vault.New", e, api.OK)
	return mounted(t, m)
}

// mounted returns the card with a memory that has power.
func mounted(t *testing.T, m *cell.Memory) *card {
	t.Helper()
	v, e := vault.Mount(m)
	expect(t, "Mount", e, api.OK)
	l, e := lifecycle.Open(v)
	if e != api.OK || l == nil {
		t.Fatal("Open returns", l, e)
	}
	return &card{m, v, l}
}

// wayTo returns the states that lead from CardReady to another one.
func wayTo(state int) []int {
	return [][]int{{}, {2}, {2, 3}, {2, 3, 4}, {2, 3, 4, 5}}[state-1]
}

// cardIn returns a new card in a state.
func cardIn(t *testing.T, state int) *card {
	t.Helper()
	c := newCard(t, 4096)
	for _, to := range wayTo(state) {
		c.set(t, to, api.OK)
	}
	return c
}

func expect(t *testing.T, what string, got, want api.Errno) {
	t.Helper()
	if got != want {
		t.Fatal(what, "returns", got, "and not", want)
	}
}

func (c *card) set(t *testing.T, to int, want api.Errno) {
	t.Helper()
	if e := c.l.Set(to); e != want {
		t.Fatal("Set to", to, "returns", e, "and not", want)
	}
}

func (c *card) state(t *testing.T, want int) {
	t.Helper()
	if got := c.l.State(); got != want {
		t.Fatal("State is", got, "and not", want)
	}
}

func (c *card) begin(t *testing.T) { t.Helper(); expect(t, "Begin", c.v.Begin(), api.OK) }

func (c *card) commit(t *testing.T) { t.Helper(); expect(t, "Commit", c.v.Commit(), api.OK) }

func (c *card) abort(t *testing.T) { t.Helper(); expect(t, "Abort", c.v.Abort(), api.OK) }

// strange are numbers that are no states, no kinds and no bytes.
var strange = []int{
	-1, -2, -5, -255, -256, 8, 256, 257, 255 + 256, 1 + 1<<8, 1 + 1<<16, 2 + 1<<32, 1<<62 + 1, math.MaxInt, math.MaxInt - 1, math.MinInt, math.MinInt + 1, math.MinInt + 2,
}

// Examples

func TestExampleOfStates(t *testing.T) {
	c := newCard(t, 16384)
	c.state(t, api.CardReady)
	c.set(t, api.CardSecured, api.ErrState)
	c.set(t, api.CardInitialized, api.OK)
	c.state(t, api.CardInitialized)
}

// Objects

func TestNoLife(t *testing.T) {
	for _, l := range []*lifecycle.Life{nil, {}} {
		c := &card{l: l}
		c.state(t, 0)
		for _, to := range append(strange, 0, 1, 2, 3, 4, 5, 6) {
			c.set(t, to, api.ErrNil)
		}
	}
}

func TestNoPower(t *testing.T) {
	c := cardIn(t, api.CardInitialized)
	c.mem.Cut(0)
	c.set(t, api.CardSecured, api.ErrPower)
	for range 2 {
		c.state(t, 0)
		for to := api.CardReady; to <= api.CardEnded; to++ {
			c.set(t, to, api.ErrPower)
		}
		c.set(t, 0, api.ErrArg)
		c.set(t, 6, api.ErrArg)
		if l, e := lifecycle.Open(c.v); e != api.ErrPower || l != nil {
			t.Fatal("Open returns", l, e)
		}
		c.mem.Restore()
	}
	mounted(t, c.mem).state(t, api.CardInitialized)
}

// TestTwoObjects opens the life cycle of a vault twice: a change through one of them is seen through the other.
func TestTwoObjects(t *testing.T) {
	c := cardIn(t, api.CardInitialized)
	l, e := lifecycle.Open(c.v)
	expect(t, "Open", e, api.OK)
	d := &card{c.mem, c.v, l}
	d.set(t, api.CardSecured, api.OK)
	c.state(t, api.CardSecured)
	c.begin(t)
	c.set(t, api.CardLocked, api.OK)
	d.state(t, api.CardLocked)
	d.set(t, api.CardEnded, api.OK)
	c.set(t, api.CardSecured, api.ErrState)
	c.abort(t)
	d.state(t, api.CardSecured)
}

// P25.1

func TestOpen(t *testing.T) {
	c := newCard(t, 16384)
	writes := c.mem.Writes()
	c.state(t, api.CardReady)
	mounted(t, c.mem).state(t, api.CardReady)
	if ids := c.v.IDs(); len(ids) > 0 || c.mem.Writes() != writes {
		t.Error("Open or State has changed something:", ids)
	}
	for state := api.CardReady; state <= api.CardEnded; state++ {
		c := cardIn(t, state)
		c.state(t, state)
		mounted(t, c.mem).state(t, state)
	}
}

func TestOpenErrors(t *testing.T) {
	expectError := func(v *vault.Vault, want api.Errno) {
		t.Helper()
		if l, e := lifecycle.Open(v); e != want || l != nil {
			t.Error("Open returns", l, e, "and not", want)
		}
	}
	expectError(nil, api.ErrNil)
	expectError(&vault.Vault{}, api.ErrPower)
	c := newCard(t, 4096)
	for _, b := range [][]byte{nil, {0}, {6}, {7}, {15}, {127}, {128}, {255}, {1, 1}, {0, 1}, {1, 0}, {0, 0, 0, 1}, make([]byte, 2048)} {
		expect(t, "Put", c.v.Put(api.ItemCard, b), api.OK)
		expectError(c.v, api.ErrCorrupt)
		c.state(t, 0)
		c.set(t, api.CardEnded, api.ErrCorrupt)
		c.set(t, 0, api.ErrArg)
		if got, ok := c.v.Get(api.ItemCard); !ok || !slices.Equal(got, b) {
			t.Fatal("what cannot be read has changed:", got)
		}
	}
	c.begin(t)
	expect(t, "Delete", c.v.Delete(api.ItemCard), api.OK)
	c.state(t, api.CardReady)
	c.abort(t)
	expectError(c.v, api.ErrCorrupt)
	c.mem.Cut(0)
	expect(t, "Put", c.v.Put(1, nil), api.ErrPower)
	expectError(c.v, api.ErrPower)
}

// TestItem expects that the state is in its item, and that other items do not matter.
func TestItem(t *testing.T) {
	c := newCard(t, 4096)
	for _, id := range []int{api.ItemCard + 1, api.ItemCard + 3, api.ItemPins, 4096} {
		expect(t, "Put", c.v.Put(id, []byte{1, 2, 3}), api.OK)
	}
	c.state(t, api.CardReady)
	c.set(t, api.CardInitialized, api.OK)
	c.set(t, api.CardSecured, api.OK)
	if ids := c.v.IDs(); !slices.Equal(ids, []int{api.ItemCard, api.ItemCard + 1, api.ItemCard + 3, api.ItemPins, 4096}) {
		t.Fatal("the items are", ids)
	}
	mounted(t, c.mem).state(t, api.CardSecured)
	expect(t, "Delete", c.v.Delete(api.ItemCard), api.OK)
	c.state(t, api.CardReady)
}

// TestSet changes every state into every other one.
func TestSet(t *testing.T) {
	permitted := map[[2]int]bool{{1, 2}: true, {2, 3}: true, {3, 4}: true, {4, 3}: true, {1, 5}: true, {2, 5}: true, {3, 5}: true, {4, 5}: true}
	for from := api.CardReady; from <= api.CardEnded; from++ {
		for to := api.CardReady; to <= api.CardEnded; to++ {
			c := cardIn(t, from)
			writes := c.mem.Writes()
			if permitted[[2]int{from, to}] {
				c.set(t, to, api.OK)
				c.state(t, to)
				mounted(t, c.mem).state(t, to)
				continue
			}
			c.set(t, to, api.ErrState)
			c.state(t, from)
			if c.mem.Writes() != writes {
				t.Error("Set with an error has written")
			}
		}
		c := cardIn(t, from)
		for _, to := range append(strange, 0, 6, 7, 15, 127, 255) { // some are bytes of states
			c.set(t, to, api.ErrArg)
		}
		c.state(t, from)
	}
}

func TestTransactions(t *testing.T) {
	c := newCard(t, 4096)
	c.begin(t)
	c.set(t, api.CardInitialized, api.OK)
	mark := c.v.Save()
	c.set(t, api.CardSecured, api.OK)
	c.set(t, api.CardReady, api.ErrState)
	c.state(t, api.CardSecured)
	mounted(t, c.mem.Clone()).state(t, api.CardReady)
	expect(t, "Back", c.v.Back(mark), api.OK)
	c.state(t, api.CardInitialized)
	c.set(t, api.CardLocked, api.ErrState)
	c.abort(t)
	c.state(t, api.CardReady)
	c.begin(t)
	c.set(t, api.CardInitialized, api.OK)
	c.set(t, api.CardSecured, api.OK)
	c.commit(t)
	c.state(t, api.CardSecured)
	mounted(t, c.mem).state(t, api.CardSecured)
}

// TestFull is about a vault without room for the item, and a commit buffer without room for a change.
func TestFull(t *testing.T) {
	c := newCard(t, 16384)
	room := c.v.Room()
	for id := 1000; room-c.v.Used() > 16; id++ { // the state needs 17
		expect(t, "Put", c.v.Put(id, make([]byte, min(2048, room-c.v.Used()-16))), api.OK)
	}
	c.set(t, api.CardInitialized, api.ErrFull)
	c.set(t, api.CardSecured, api.ErrState)
	c.set(t, 9, api.ErrArg)
	c.state(t, api.CardReady)
	expect(t, "Delete", c.v.Delete(1000), api.OK)
	c.begin(t)
	expect(t, "Put", c.v.Put(1001, make([]byte, 2048)), api.OK)
	expect(t, "Put", c.v.Put(1002, make([]byte, 2048-16)), api.OK)
	c.set(t, api.CardInitialized, api.ErrBuffer)
	c.set(t, api.CardSecured, api.ErrState)
	c.state(t, api.CardReady)
	c.abort(t)
	c.set(t, api.CardInitialized, api.OK)
	c.state(t, api.CardInitialized)
}

// P25.4

// TestOrder sets random states, in transactions and outside, and expects that no state comes again that must not.
func TestOrder(t *testing.T) {
	ended := 0
	for seed := range uint64(60) {
		r := rand.New(rand.NewPCG(seed, 41))
		c, durable := newCard(t, 4096), api.CardReady
		for range 60 {
			switch n := r.IntN(12); {
			case n == 0 && c.v.Active():
				c.abort(t)
			case n < 2 && c.v.Active():
				c.commit(t)
			case n < 2:
				c.begin(t)
			default:
				c.setAny(t, 1+r.IntN(5-r.IntN(2)))
			}
			if c.v.Active() {
				continue
			}
			state := c.l.State()
			if durable == api.CardEnded && state != api.CardEnded || durable >= api.CardSecured && state < api.CardSecured {
				t.Fatal("after", durable, "comes", state)
			}
			durable = state
		}
		if durable == api.CardEnded {
			ended++
		}
	}
	if ended < 10 || ended == 60 {
		t.Error(ended, "cards have ended")
	}
}

// setAny sets a state, if that is permitted.
func (c *card) setAny(t *testing.T, to int) {
	t.Helper()
	from := c.l.State()
	if lifecycle.Card(from, to) {
		c.set(t, to, api.OK)
		c.state(t, to)
		return
	}
	c.set(t, to, api.ErrState)
	c.state(t, from)
}
