package pin_test

import (
	"bytes"
	"fmt"
	"maps"
	"math/rand/v2"
	"slices"
	"testing"

	"smartcard/api"
	"smartcard/pin"
)

// pins is what Pins and the model have in common.
type pins interface {
	Create(d api.Pin) api.Errno
	Delete(id int) api.Errno
	Verify(id int, guess []byte) (int, api.Errno)
	Change(id int, old, value []byte) (int, api.Errno)
	Unblock(id int, code, value []byte) (int, api.Errno)
	Set(id int, value []byte) api.Errno
	Info(id int) (api.PinInfo, bool)
	List() []int
}

// entry is a PIN of the model.
type entry struct {
	api.Pin
	tries, codeTries int
}

type state map[int]entry

// change is a change of a transaction: a PIN, which is gone if it has no number.
type change struct {
	id int
	x  entry
}

// model is PINs as the document defines them.
type model struct {
	states  []state // all persistent ones so far, the current one last
	active  bool
	changes []change
}

func newModel() *model { return &model{states: []state{{}}} }

// durable returns the persistent state.
func (m *model) durable() state { return m.states[len(m.states)-1] }

func (m *model) copied() *model {
	return &model{slices.Clone(m.states), m.active, slices.Clone(m.changes)}
}

// apply returns the state that changes make of another one.
func (s state) apply(l ...change) state {
	s = maps.Clone(s)
	for _, c := range l {
		s[c.id] = c.x
		if c.x.ID == 0 {
			delete(s, c.id)
		}
	}
	return s
}

// persist makes changes persistent, together.
func (m *model) persist(l ...change) { m.states = append(m.states, m.durable().apply(l...)) }

func (m *model) seen() state { return m.durable().apply(m.changes...) }

func (m *model) fresh(id int) bool {
	return slices.ContainsFunc(m.changes, func(c change) bool { return c.id == id })
}

// put makes a change: in the transaction, if there is one.
func (m *model) put(id int, x entry) {
	if m.active {
		m.changes = append(m.changes, change{id, x})
		return
	}
	m.persist(change{id, x})
}

func (m *model) begin() api.Errno {
	if m.active {
		return api.ErrState
	}
	m.active = true
	return api.OK
}

func (m *model) commit() api.Errno {
	if !m.active {
		return api.ErrState
	}
	m.persist(m.changes...)
	m.active, m.changes = false, nil
	return api.OK
}

func (m *model) abort() api.Errno {
	if !m.active {
		return api.ErrState
	}
	m.active, m.changes = false, nil
	return api.OK
}

func (m *model) Create(d api.Pin) api.Errno {
	small := func(n int) bool { return 1 <= n && n <= 15 }
	codeOK := d.UnblockLimit == 0
	if n := len(d.Unblock); n > 0 {
		codeOK = n <= 16 && small(d.UnblockLimit)
	}
	n := len(d.Value)
	if d.ID < 1 || d.ID > 8 || !small(d.Limit) || !(1 <= d.Min && d.Min <= d.Max && d.Max <= 16) || n < d.Min || n > d.Max || !codeOK {
		return api.ErrArg
	}
	if m.seen()[d.ID].ID > 0 {
		return api.ErrTwice
	}
	m.put(d.ID, entry{d, d.Limit, d.UnblockLimit})
	return api.OK
}

func (m *model) Delete(id int) api.Errno {
	if m.seen()[id].ID == 0 {
		return api.ErrNone
	}
	m.put(id, entry{})
	return api.OK
}

func (m *model) Verify(id int, guess []byte) (int, api.Errno) {
	x := m.seen()[id]
	switch {
	case x.ID == 0:
		return 0, api.ErrNone
	case m.fresh(id):
		return 0, api.ErrState
	case x.tries == 0:
		return 0, api.ErrBlocked
	}
	x.tries--
	m.persist(change{id, x})
	if !bytes.Equal(guess, x.Value) {
		return x.tries, api.ErrWrong
	}
	x.tries = x.Limit
	m.persist(change{id, x})
	return x.Limit, api.OK
}

func (m *model) Change(id int, old, value []byte) (int, api.Errno) {
	x := m.seen()[id]
	switch {
	case x.ID == 0:
		return 0, api.ErrNone
	case len(value) < x.Min || len(value) > x.Max:
		return 0, api.ErrRange
	}
	if n, e := m.Verify(id, old); e != api.OK {
		return n, e
	}
	return x.Limit, m.Set(id, value)
}

func (m *model) Unblock(id int, code, value []byte) (int, api.Errno) {
	x := m.seen()[id]
	switch {
	case x.ID == 0:
		return 0, api.ErrNone
	case len(x.Unblock) == 0:
		return 0, api.ErrKey
	case len(value) < x.Min || len(value) > x.Max:
		return 0, api.ErrRange
	case m.fresh(id):
		return 0, api.ErrState
	case x.codeTries == 0:
		return 0, api.ErrBlocked
	}
	x.codeTries--
	m.persist(change{id, x})
	if !bytes.Equal(code, x.Unblock) {
		return x.codeTries, api.ErrWrong
	}
	x.codeTries = x.UnblockLimit
	m.persist(change{id, x})
	return x.Limit, m.Set(id, value)
}

func (m *model) Set(id int, value []byte) api.Errno {
	x := m.seen()[id]
	switch {
	case x.ID == 0:
		return api.ErrNone
	case len(value) < x.Min || len(value) > x.Max:
		return api.ErrRange
	}
	x.Value, x.tries = value, x.Limit
	m.put(id, x)
	return api.OK
}

func (m *model) Info(id int) (api.PinInfo, bool) {
	x := m.seen()[id]
	return api.PinInfo{ID: x.ID, Tries: x.tries, UnblockTries: x.codeTries, Limit: x.Limit}, x.ID > 0
}

func (m *model) List() []int { return slices.Sorted(maps.Keys(m.seen())) }

// call is a call of PINs, with its result as a text.
type call func(p pins) (string, api.Errno)

func creating(d api.Pin) call {
	return func(p pins) (string, api.Errno) { return "", p.Create(d) }
}

func deleting(id int) call {
	return func(p pins) (string, api.Errno) { return "", p.Delete(id) }
}

func verifying(id int, guess string) call {
	return func(p pins) (string, api.Errno) { n, e := p.Verify(id, []byte(guess)); return fmt.Sprint(n), e }
}

func changing(id int, old, value string) call {
	return func(p pins) (string, api.Errno) {
		n, e := p.Change(id, []byte(old), []byte(value))
		return fmt.Sprint(n), e
	}
}

func unblocking(id int, code, value string) call {
	return func(p pins) (string, api.Errno) {
		n, e := p.Unblock(id, []byte(code), []byte(value))
		return fmt.Sprint(n), e
	}
}

func setting(id int, value string) call {
	return func(p pins) (string, api.Errno) { return "", p.Set(id, []byte(value)) }
}

// someText returns a text of few different letters.
func someText(r *rand.Rand, n int) string {
	b := make([]byte, n)
	for i := range b {
		b[i] = byte('a' + r.IntN(2))
	}
	return string(b)
}

// somePin returns the number of a PIN, or now and then another one.
func somePin(r *rand.Rand) int {
	if r.IntN(40) == 0 {
		return strangeNumbers[r.IntN(len(strangeNumbers))]
	}
	return 1 + r.IntN(4)*2
}

func someDefinition(r *rand.Rand) api.Pin {
	if r.IntN(10) == 0 {
		l := invalidDefinitions()
		return l[r.IntN(len(l))]
	}
	least := 1 + r.IntN(3)
	most := least + r.IntN(4)
	d := api.Pin{ID: somePin(r), Limit: 1 + r.IntN(4), Min: least, Max: most, Value: []byte(someText(r, least+r.IntN(most-least+1)))}
	if r.IntN(4) > 0 {
		d.Unblock, d.UnblockLimit = []byte(someText(r, 1+r.IntN(3))), 1+r.IntN(3)
	}
	return d
}

// guessFor returns what a guess has to be, or something else.
func guessFor(r *rand.Rand, right []byte) string {
	if r.IntN(2) == 0 {
		return string(right)
	}
	return someText(r, r.IntN(4))
}

// randomCall returns a call for a PIN.
func randomCall(r *rand.Rand, m *model) call {
	id := somePin(r)
	x := m.seen()[id]
	value := someText(r, x.Min+r.IntN(x.Max-x.Min+1))
	if r.IntN(10) == 0 {
		value = someText(r, r.IntN(9))
	}
	switch n := r.IntN(20); {
	case x.ID == 0 && n < 10 || n == 0:
		return creating(someDefinition(r))
	case n == 1:
		return deleting(id)
	case n < 4:
		return setting(id, value)
	case n < 8:
		return changing(id, guessFor(r, x.Value), value)
	case n < 13:
		return unblocking(id, guessFor(r, x.Unblock), value)
	}
	return verifying(id, guessFor(r, x.Value))
}

// contents returns all that can be seen as a text.
func contents(p pins) string {
	text := fmt.Sprint(p.List(), "\n")
	for id := -1; id < 10; id++ {
		x, ok := p.Info(id)
		text += fmt.Sprint(x, ok, "\n")
	}
	return text
}

func expectModel(t *testing.T, p pins, m pins) {
	t.Helper()
	if got, want := contents(p), contents(m); got != want {
		t.Fatalf("the PINs are\n%s\nand not\n%s", got, want)
	}
}

// onBoth makes a call of PINs and of the model; it returns its error.
func onBoth(t *testing.T, p, m pins, c call) api.Errno {
	t.Helper()
	got, e := c(p)
	want, wantE := c(m)
	if got != want || e != wantE {
		t.Fatal("a call returns", got, e, "and not", want, wantE)
	}
	return e
}

// P21.2 to P21.8

// TestModel makes random calls, in transactions and outside, and compares all that can be seen. Now and then the vault is mounted again.
func TestModel(t *testing.T) {
	count := map[api.Errno]int{}
	for seed := range uint64(12) {
		r := rand.New(rand.NewPCG(seed, 21))
		c, m := newCard(t, 16384), newModel()
		marks := map[int]int{} // the number of changes of the model for each mark of the transaction
		for range 600 {
			switch n := r.IntN(60); {
			case n == 0 && !c.v.Active():
				c = mounted(t, c.mem)
			case n < 9:
				endOrBegin(t, r, c, m, marks)
			default:
				count[onBoth(t, c.p, m, randomCall(r, m))]++
			}
			marks[c.v.Save()] = len(m.changes)
			expectModel(t, c.p, m)
		}
	}
	for _, e := range []api.Errno{api.OK, api.ErrArg, api.ErrTwice, api.ErrNone, api.ErrRange, api.ErrState, api.ErrBlocked, api.ErrWrong, api.ErrKey} {
		if count[e] < 50 {
			t.Error("the result", e, "occurred", count[e], "times")
		}
	}
}

// endOrBegin begins a transaction, or ends the current one in one of several ways, or goes back in it.
func endOrBegin(t *testing.T, r *rand.Rand, c *card, m *model, marks map[int]int) {
	t.Helper()
	marks[0] = 0
	switch r.IntN(3) {
	case 0:
		expect(t, "Commit", c.v.Commit(), m.commit())
	case 1:
		expect(t, "Abort", c.v.Abort(), m.abort())
	case 2:
		l := slices.Sorted(maps.Keys(marks))
		mark := l[r.IntN(len(l))]
		if m.active {
			expect(t, "Back", c.v.Back(mark), api.OK)
			m.changes = m.changes[:marks[mark]]
			maps.DeleteFunc(marks, func(other, _ int) bool { return other > mark })
		}
	}
	if !m.active && r.IntN(2) == 0 {
		expect(t, "Begin", c.v.Begin(), m.begin())
		clear(marks)
	}
}

// TestTwoObjectsOfModel opens the PINs twice, and makes calls of both in turn.
func TestTwoObjectsOfModel(t *testing.T) {
	r := rand.New(rand.NewPCG(1, 22))
	c, m := newCard(t, 16384), newModel()
	q, e := pin.Open(c.v)
	expect(t, "Open", e, api.OK)
	for i := range 1000 {
		onBoth(t, []pins{c.p, q}[i%2], m, randomCall(r, m))
		if i%10 == 0 {
			endOrBegin(t, r, c, m, map[int]int{})
		}
		expectModel(t, c.p, m)
		expectModel(t, q, m)
	}
}
