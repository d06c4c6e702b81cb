package keys_test

import (
	"fmt"
	"maps"
	"math/rand/v2"
	"slices"
	"testing"

	"smartcard/api"
	"smartcard/keys"
	"smartcard/mode"
)

// sets is what Keys and the model have in common.
type sets interface {
	Put(x api.Key) api.Errno
	Get(set, kind int) (api.Key, bool)
	Delete(set int) api.Errno
	Sets() []int
	Info(set int) []api.KeyInfo
	Spend(set, kind int) (int, api.Errno)
	Restore(set, kind int) api.Errno
}

// entry is a key of the model.
type entry struct {
	api.Key
	tries int
}

// state is keys by the items that they use.
type state map[int]entry

// change is a change of a transaction: a key, which is gone if it has no set.
type change struct {
	id int
	x  entry
}

// model is keys as the document defines them.
type model struct {
	states  []state // all persistent ones so far, the current one last
	active  bool
	changes []change
}

func newModel() *model { return &model{states: []state{{}}} }

// durable returns the persistent state.
func (m *model) durable() state { return m.states[len(m.states)-1] }

func (m *model) copied() *model {
	return &model{slices.Clone(m.states), m.active, slices.Clone(m.changes)}
}

// apply returns the state that changes make of another one.
func (s state) apply(l ...change) state {
	s = maps.Clone(s)
	for _, c := range l {
		s[c.id] = c.x
		if c.x.Set == 0 {
			delete(s, c.id)
		}
	}
	return s
}

// persist makes changes persistent, together.
func (m *model) persist(l ...change) { m.states = append(m.states, m.durable().apply(l...)) }

func (m *model) seen() state { return m.durable().apply(m.changes...) }

// make makes changes: in the transaction, if there is one.
func (m *model) make(l ...change) {
	if m.active {
		m.changes = append(m.changes, l...)
		return
	}
	m.persist(l...)
}

func (m *model) begin() api.Errno {
	if m.active {
		return api.ErrState
	}
	m.active = true
	return api.OK
}

func (m *model) commit() api.Errno {
	if !m.active {
		return api.ErrState
	}
	m.persist(m.changes...)
	m.active, m.changes = false, nil
	return api.OK
}

func (m *model) abort() api.Errno {
	if !m.active {
		return api.ErrState
	}
	m.active, m.changes = false, nil
	return api.OK
}

// find returns the item of a key, and the key.
func (m *model) find(set, kind int) (int, entry) {
	for id, x := range m.seen() {
		if x.Set == set && x.Kind == kind {
			return id, x
		}
	}
	return 0, entry{}
}

func (m *model) Put(x api.Key) api.Errno {
	if x.Set < 1 || x.Set > 8 || x.Kind < 1 || x.Kind > 6 || len(x.Value) != 16 || x.Limit < 1 || x.Limit > 15 {
		return api.ErrArg
	}
	m.make(change{64 + 8*x.Set + x.Kind, entry{x, x.Limit}})
	return api.OK
}

func (m *model) Get(set, kind int) (api.Key, bool) {
	_, x := m.find(set, kind)
	return x.Key, x.Set > 0
}

func (m *model) Delete(set int) api.Errno {
	var l []change
	for id, x := range m.seen() {
		if x.Set == set {
			l = append(l, change{id: id})
		}
	}
	if len(l) == 0 {
		return api.ErrNone
	}
	m.make(l...)
	return api.OK
}

func (m *model) Sets() []int {
	var l []int
	for _, x := range m.seen() {
		l = append(l, x.Set)
	}
	slices.Sort(l)
	return slices.Compact(l)
}

func (m *model) Info(set int) []api.KeyInfo {
	var l []api.KeyInfo
	for kind := range 7 {
		if _, x := m.find(set, kind); x.Set > 0 {
			check, _ := mode.Check(x.Value)
			l = append(l, api.KeyInfo{Set: set, Kind: kind, Tries: x.tries, Check: check})
		}
	}
	return l
}

// count changes the tries of a key, at once.
func (m *model) count(id int, x entry) api.Errno {
	if slices.ContainsFunc(m.changes, func(c change) bool { return c.id == id }) {
		return api.ErrState
	}
	m.persist(change{id, x})
	return api.OK
}

func (m *model) Spend(set, kind int) (int, api.Errno) {
	id, x := m.find(set, kind)
	switch {
	case x.Set == 0:
		return 0, api.ErrKey
	case x.tries == 0:
		return 0, api.ErrBlocked
	}
	x.tries--
	if e := m.count(id, x); e != api.OK {
		return 0, e
	}
	return x.tries, api.OK
}

func (m *model) Restore(set, kind int) api.Errno {
	id, x := m.find(set, kind)
	if x.Set == 0 {
		return api.ErrKey
	}
	x.tries = x.Limit
	return m.count(id, x)
}

// call is a call of keys, with its result as a text.
type call func(k sets) (string, api.Errno)

func putting(x api.Key) call {
	return func(k sets) (string, api.Errno) { return "", k.Put(x) }
}

func deleting(set int) call {
	return func(k sets) (string, api.Errno) { return "", k.Delete(set) }
}

func spending(set, kind int) call {
	return func(k sets) (string, api.Errno) { n, e := k.Spend(set, kind); return fmt.Sprint(n), e }
}

func restoring(set, kind int) call {
	return func(k sets) (string, api.Errno) { return "", k.Restore(set, kind) }
}

// someName returns the numbers of a key, or now and then others.
func someName(r *rand.Rand) (set, kind int) {
	if r.IntN(30) == 0 {
		n := strangeNames[r.IntN(len(strangeNames))]
		return n[0], n[1]
	}
	return 1 + r.IntN(3)*3, 1 + r.IntN(6)
}

func randomCall(r *rand.Rand) call {
	set, kind := someName(r)
	switch n := r.IntN(20); {
	case n < 5:
		x := api.Key{Set: set, Kind: kind, Value: value(r.IntN(100)), Limit: 1 + r.IntN(3)}
		if r.IntN(20) == 0 {
			x.Limit *= r.IntN(2) * 16
		}
		if r.IntN(20) == 0 {
			x.Value = x.Value[:r.IntN(16)]
		}
		return putting(x)
	case n < 7:
		return deleting(set)
	case n < 10:
		return restoring(set, kind)
	}
	return spending(set, kind)
}

// contents returns all that can be seen as a text.
func contents(k sets) string {
	text := fmt.Sprint(k.Sets(), "\n")
	for _, set := range k.Sets() {
		text += fmt.Sprint(k.Info(set), k.Info(set-1))
		for kind := range 8 {
			x, ok := k.Get(set, kind)
			text += fmt.Sprint(x, ok)
		}
		text += "\n"
	}
	return text
}

func expectModel(t *testing.T, k sets, m *model) {
	t.Helper()
	if got, want := contents(k), contents(m); got != want {
		t.Fatalf("the keys are\n%s\nand not\n%s", got, want)
	}
}

// onBoth makes a call of keys and of the model; it returns its error.
func onBoth(t *testing.T, k sets, m *model, c call) api.Errno {
	t.Helper()
	got, e := c(k)
	want, wantE := c(m)
	if got != want || e != wantE {
		t.Fatal("a call returns", got, e, "and not", want, wantE)
	}
	return e
}

// P22.2 to P22.4

// TestModel makes random calls, in transactions and outside, and compares all that can be seen. Now and then the vault is mounted again.
func TestModel(t *testing.T) {
	count := map[api.Errno]int{}
	for seed := range uint64(10) {
		r := rand.New(rand.NewPCG(seed, 31))
		c, m := newCard(t, 16384), newModel()
		marks := map[int]int{} // the number of changes of the model for each mark of the transaction
		for i := range 600 {
			switch n := r.IntN(60); {
			case n == 0 && !c.v.Active():
				c = mounted(t, c.mem)
			case n < 6:
				endOrBegin(t, r, c, m, marks)
			default:
				count[onBoth(t, c.k, m, randomCall(r))]++
			}
			marks[c.v.Save()] = len(m.changes)
			if i%5 == 0 {
				expectModel(t, c.k, m)
			}
		}
		expectModel(t, c.k, m)
	}
	for _, e := range []api.Errno{api.OK, api.ErrArg, api.ErrNone, api.ErrKey, api.ErrState, api.ErrBlocked} {
		if count[e] < 50 {
			t.Error("the result", e, "occurred", count[e], "times")
		}
	}
}

// endOrBegin begins a transaction, or ends the current one in one of several ways, or goes back in it.
func endOrBegin(t *testing.T, r *rand.Rand, c *card, m *model, marks map[int]int) {
	t.Helper()
	marks[0] = 0
	switch r.IntN(3) {
	case 0:
		expect(t, "Commit", c.v.Commit(), m.commit())
	case 1:
		expect(t, "Abort", c.v.Abort(), m.abort())
	case 2:
		l := slices.Sorted(maps.Keys(marks))
		mark := l[r.IntN(len(l))]
		if m.active {
			expect(t, "Back", c.v.Back(mark), api.OK)
			m.changes = m.changes[:marks[mark]]
			maps.DeleteFunc(marks, func(other, _ int) bool { return other > mark })
		}
	}
	if !m.active && r.IntN(2) == 0 {
		expect(t, "Begin", c.v.Begin(), m.begin())
		clear(marks)
	}
}

// TestTwoObjectsOfModel opens the keys twice, and makes calls of both in turn.
func TestTwoObjectsOfModel(t *testing.T) {
	r := rand.New(rand.NewPCG(1, 32))
	c, m := newCard(t, 16384), newModel()
	k, e := keys.Open(c.v)
	expect(t, "Open", e, api.OK)
	for i := range 500 {
		onBoth(t, []sets{c.k, k}[i%2], m, randomCall(r))
		if i%10 == 0 {
			endOrBegin(t, r, c, m, map[int]int{})
			expectModel(t, c.k, m)
			expectModel(t, k, m)
		}
	}
}
