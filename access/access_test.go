package access_test

import (
	"math"
	"math/rand/v2"
	"slices"
	"testing"

	"smartcard/access"
	"smartcard/api"
)

var (
	never  = api.Cond{Op: api.CondNever}
	always = api.Cond{Op: api.CondAlways}
)

func pin(n int) api.Cond { return api.Cond{Op: api.CondPin, N: n} }

func key(n int) api.Cond { return api.Cond{Op: api.CondKey, N: n} }

func state(n int) api.Cond { return api.Cond{Op: api.CondState, N: n} }

func level(n int) api.Cond { return api.Cond{Op: api.CondLevel, N: n} }

func and(kids ...api.Cond) api.Cond { return api.Cond{Op: api.CondAnd, Kids: kids} }

func or(kids ...api.Cond) api.Cond { return api.Cond{Op: api.CondOr, Kids: kids} }

// nested returns a condition within a number of others, one in the other.
func nested(levels int, c api.Cond) api.Cond {
	for n := range levels {
		if c = and(c); n%2 == 1 {
			c.Op = api.CondOr
		}
	}
	return c
}

// repeated returns a list of n equal conditions.
func repeated(n int, c api.Cond) []api.Cond { return slices.Repeat([]api.Cond{c}, n) }

// endless returns a condition that contains itself, a number of times.
func endless(times int) api.Cond {
	kids := make([]api.Cond, times)
	for i := range kids {
		kids[i] = api.Cond{Op: api.CondAnd, Kids: kids}
	}
	return kids[0]
}

// invalid are conditions that are not valid.
var invalid = []api.Cond{
	{Op: -1}, {Op: 8}, {Op: math.MaxInt}, {Op: math.MinInt},
	{Op: api.CondNever, N: 1}, {Op: api.CondAlways, N: -1}, {Op: api.CondAlways, Kids: []api.Cond{always}}, {Op: api.CondNever, Kids: []api.Cond{never}},
	pin(0), pin(9), pin(-1), key(0), key(9), key(math.MinInt), state(0), state(6), level(0), level(4), level(0x40), level(0x34), level(-1), level(math.MinInt + 1), level(0x101),
	{Op: api.CondPin, N: 1, Kids: []api.Cond{always}}, {Op: api.CondState, N: 1, Kids: []api.Cond{always}},
	and(), or(), {Op: api.CondAnd, N: 1, Kids: []api.Cond{always}}, {Op: api.CondOr, N: -1, Kids: []api.Cond{always}},
	and(always, or()), or(pin(1), pin(0), pin(2)), and(or(and(pin(9)), always)),
}

// long are conditions that are valid, but too long.
var long = []api.Cond{and(repeated(16, always)...), nested(8, always), or(repeated(8, or(pin(1)))...), and(nested(7, pin(1)), nested(7, pin(1)), always), and(always, nested(8, pin(1)))}

// samples are conditions that are valid, and not too long.
var samples = []api.Cond{
	never, always, pin(1), pin(8), key(1), key(8), state(1), state(5), level(1), level(2), level(3), level(0x10), level(0x33), level(0x20),
	and(never), or(always), and(pin(1), or(key(2), state(3))), nested(7, pin(2)), nested(7, never), and(repeated(15, key(3))...), or(repeated(15, always)...),
	or(repeated(7, and(level(3)))...), and(nested(6, pin(1)), nested(6, pin(1)), always),
}

func expectCheck(t *testing.T, c api.Cond, want api.Errno) {
	t.Helper()
	if e := access.Check(c); e != want {
		t.Fatalf("Check of %v returns %d and not %d", c, e, want)
	}
}

// random returns a condition with at most a number of nodes, and at most a depth; it is valid unless the numbers are wrong ones.
func random(r *rand.Rand, nodes, depth int, wrong bool) api.Cond {
	if nodes > 1 && depth > 1 && r.IntN(3) > 0 {
		c := api.Cond{Op: api.CondAnd + r.IntN(2)}
		for left := nodes - 1; left > 0; {
			n := 1 + r.IntN(left)
			c.Kids = append(c.Kids, random(r, n, depth-1, wrong))
			if left -= n; r.IntN(4) == 0 {
				break
			}
		}
		return c
	}
	if wrong && r.IntN(3) == 0 {
		return invalid[r.IntN(len(invalid))]
	}
	switch r.IntN(16) {
	case 0:
		return never
	case 1:
		return always
	case 2, 3, 4, 5:
		return pin(1 + r.IntN(3))
	case 6, 7, 8:
		return key(1 + r.IntN(2))
	case 9, 10, 11:
		return state(1 + r.IntN(5))
	}
	return level(r.IntN(16)/4*0x10 + 1 + r.IntN(3))
}

// P14.1

// validAlone tells whether a condition without kids, or with valid ones, is valid.
func validAlone(c api.Cond) bool {
	switch c.Op {
	case api.CondNever, api.CondAlways:
		return c.N == 0 && len(c.Kids) == 0
	case api.CondPin, api.CondKey:
		return c.N >= 1 && c.N <= 8 && len(c.Kids) == 0
	case api.CondState:
		return c.N >= 1 && c.N <= 5 && len(c.Kids) == 0
	case api.CondLevel:
		return slices.Contains([]int{1, 2, 3, 0x10, 0x11, 0x12, 0x13, 0x20, 0x21, 0x22, 0x23, 0x30, 0x31, 0x32, 0x33}, c.N) && len(c.Kids) == 0
	case api.CondAnd, api.CondOr:
		return c.N == 0 && len(c.Kids) > 0
	}
	return false
}

func TestCheckOfOneCondition(t *testing.T) {
	numbers := []int{math.MinInt, math.MinInt + 1, -256, 255, 256, 257, 1 << 32, 1<<32 + 1, 1<<32 + 0x11, math.MaxInt}
	for n := -70; n <= 140; n++ {
		numbers = append(numbers, n)
	}
	count := 0
	for op := -3; op <= 20; op++ {
		for _, n := range numbers {
			for _, kids := range [][]api.Cond{nil, {}, {always}, {pin(1), never}} {
				c := api.Cond{Op: op, N: n, Kids: kids}
				want := api.ErrArg
				if validAlone(c) {
					want = api.OK
					count++
				}
				expectCheck(t, c, want)
			}
		}
	}
	if count != 2*(2+8+8+5+15)+2*2 {
		t.Error(count)
	}
}

func TestCheckOfNestedConditions(t *testing.T) {
	for _, c := range samples {
		expectCheck(t, c, api.OK)
	}
	for _, c := range long {
		expectCheck(t, c, api.ErrLong)
	}
	for _, c := range invalid {
		expectCheck(t, c, api.ErrArg)
		expectCheck(t, and(c), api.ErrArg)
		expectCheck(t, or(always, pin(1), c, pin(2)), api.ErrArg)
		expectCheck(t, nested(6, c), api.ErrArg)
		for _, d := range long { // this comes first, wherever it is
			expectCheck(t, and(c, d), api.ErrArg)
			expectCheck(t, and(d, c), api.ErrArg)
		}
		expectCheck(t, nested(100, c), api.ErrArg)
		expectCheck(t, or(append(repeated(1000, always), c)...), api.ErrArg)
	}
}

func TestCheckOfTheLimits(t *testing.T) {
	for n := 1; n <= 40; n++ {
		want := api.OK
		if n > 15 {
			want = api.ErrLong
		}
		expectCheck(t, and(repeated(n, pin(3))...), want)
		want = api.OK
		if n > 7 {
			want = api.ErrLong
		}
		expectCheck(t, nested(n, pin(3)), want)
		expectCheck(t, or(repeated(n, and(always))...), want)
	}
	expectCheck(t, nested(60000, always), api.ErrLong)
	expectCheck(t, nested(60000, pin(0)), api.ErrArg)
	expectCheck(t, endless(1), api.ErrLong)
}

func TestCheckRules(t *testing.T) {
	good := api.Rule{Ops: 1, Cond: always}
	none, tooLong := api.Rule{Cond: long[0]}, api.Rule{Ops: 1, Cond: long[0]}
	wrong := api.Rule{Ops: 255, Cond: pin(0)}
	for _, x := range []struct {
		l []api.Rule
		e api.Errno
	}{
		{nil, api.OK},
		{[]api.Rule{good}, api.OK},
		{slices.Repeat([]api.Rule{good}, 8), api.OK},
		{slices.Repeat([]api.Rule{good}, 9), api.ErrLong},
		{slices.Repeat([]api.Rule{wrong}, 9), api.ErrLong},
		{slices.Repeat([]api.Rule{wrong}, 8), api.ErrArg},
		{[]api.Rule{good, none}, api.ErrArg},
		{[]api.Rule{none}, api.ErrArg}, // its Ops come before its condition
		{[]api.Rule{tooLong}, api.ErrLong},
		{[]api.Rule{good, tooLong, wrong, none}, api.ErrLong},
		{[]api.Rule{good, wrong, tooLong}, api.ErrArg},
		{[]api.Rule{{Ops: 3, Cond: samples[16]}, {Ops: 128, Cond: never}}, api.OK},
	} {
		if e := access.CheckRules(x.l); e != x.e {
			t.Errorf("CheckRules of %v returns %d and not %d", x.l, e, x.e)
		}
	}
	for ops := -300; ops <= 600; ops++ {
		want := api.ErrArg
		if ops >= 1 && ops <= 255 {
			want = api.OK
		}
		if e := access.CheckRules([]api.Rule{{Ops: ops, Cond: always}}); e != want {
			t.Error(ops, e)
		}
	}
	for _, ops := range []int{math.MinInt, math.MaxInt, 1<<32 + 1} {
		if access.CheckRules([]api.Rule{{Ops: ops, Cond: always}}) != api.ErrArg {
			t.Error(ops)
		}
	}
}

// P14.2

// bit tells whether a bit of a number is 1, in two's complement.
func bit(x, n int) bool {
	for range n {
		x = int(math.Floor(float64(x) / 2)) // the numbers of the tests are small
	}
	return x%2 != 0
}

// satisfied is what Holds has to return for a condition that is valid, and not too long.
func satisfied(c api.Cond, s api.Security) bool {
	switch c.Op {
	case api.CondAlways:
		return true
	case api.CondPin:
		return bit(s.Pins, c.N)
	case api.CondKey:
		return bit(s.Keys, c.N)
	case api.CondState:
		return s.State >= c.N
	case api.CondLevel:
		for n := range 6 {
			if bit(c.N, n) && !bit(s.Level, n) {
				return false
			}
		}
		return true
	case api.CondAnd, api.CondOr:
		holds := 0
		for _, kid := range c.Kids {
			if satisfied(kid, s) {
				holds++
			}
		}
		return holds == len(c.Kids) || c.Op == api.CondOr && holds > 0
	}
	return false
}

// full is a status in which all is satisfied that can be.
var full = api.Security{Pins: -1, Keys: -1, State: math.MaxInt, Level: -1}

func TestHolds(t *testing.T) {
	c := and(pin(1), or(key(2), state(3)))
	for _, x := range []struct {
		c    api.Cond
		s    api.Security
		want bool
	}{
		{c, api.Security{Pins: 2, Keys: 4}, true},
		{c, api.Security{Pins: 2, State: 4}, true},
		{c, api.Security{Pins: 2, State: 3}, true},
		{c, api.Security{Pins: 2, State: 2}, false},
		{c, api.Security{Pins: 1}, false},
		{c, api.Security{Pins: 4, Keys: 4}, false},
		{c, api.Security{Pins: 2, Keys: 2}, false},
		{c, api.Security{Keys: 4, State: 4, Level: 2}, false},
		{never, full, false},
		{always, api.Security{State: math.MinInt}, true},
		{pin(8), api.Security{Pins: 256}, true},
		{pin(8), api.Security{Pins: 255}, false},
		{pin(1), api.Security{Pins: -1}, true},
		{pin(1), api.Security{Pins: math.MinInt}, false},
		{pin(1), api.Security{Pins: -3}, false},
		{key(3), api.Security{Keys: -8}, true},
		{key(3), api.Security{Keys: -9}, false},
		{key(1), api.Security{Pins: -1, Level: -1, State: 5}, false},
		{pin(1), api.Security{Keys: -1, Level: -1, State: 5}, false},
		{state(1), api.Security{Pins: -1, Keys: -1, Level: -1}, false},
		{state(5), api.Security{State: math.MaxInt}, true},
		{state(1), api.Security{State: -1}, false},
		{level(3), api.Security{Level: 3}, true},
		{level(3), api.Security{Level: 0x32}, false},
		{level(0x11), api.Security{Level: 0x33}, true},
		{level(0x33), api.Security{Level: -1}, true},
		{level(0x10), api.Security{Pins: -1, Keys: -1, Level: ^0x10, State: 5}, false},
	} {
		if access.Holds(x.c, x.s) != x.want {
			t.Error(x.c, x.s, !x.want)
		}
	}
}

func TestHoldsOfWrongConditions(t *testing.T) {
	for _, c := range slices.Concat(invalid, long) {
		if access.Holds(c, full) || access.Holds(or(always, c), full) {
			t.Error(c)
		}
	}
	if access.Holds(endless(1), full) {
		t.Error("a condition that contains itself")
	}
}

// randomStatus returns a status with small numbers, also negative ones.
func randomStatus(r *rand.Rand) api.Security {
	return api.Security{Pins: r.IntN(64) - 32, Keys: r.IntN(64) - 32, State: r.IntN(9) - 2, Level: r.IntN(200) - 100}
}

func TestHoldsOfRandomConditions(t *testing.T) {
	r := rand.New(rand.NewPCG(14, 2))
	yes := 0
	for range 30000 {
		c, s := random(r, 16, 8, false), randomStatus(r)
		want := satisfied(c, s)
		if access.Holds(c, s) != want {
			t.Fatal(c, s, want)
		}
		if want {
			yes++
		}
	}
	if yes < 5000 || yes > 25000 {
		t.Error("most of the conditions are alike:", yes)
	}
}

func TestAllowed(t *testing.T) {
	l := []api.Rule{{Ops: api.OpRead | api.OpUpdate, Cond: pin(1)}, {Ops: api.OpUpdate | api.OpTerminate, Cond: key(1)}, {Ops: api.OpDelete, Cond: never}, {Ops: api.OpAppend, Cond: always}}
	for n, want := range map[api.Security]int{
		{}:                 api.OpAppend,
		{Pins: 2}:          api.OpRead | api.OpUpdate | api.OpAppend,
		{Keys: 2}:          api.OpUpdate | api.OpTerminate | api.OpAppend,
		{Pins: 2, Keys: 2}: api.OpRead | api.OpUpdate | api.OpTerminate | api.OpAppend,
		{Pins: 4, Keys: 4}: api.OpAppend,
	} {
		for op := -300; op <= 600; op++ {
			one := slices.Contains([]int{1, 2, 4, 8, 16, 32, 64, 128}, op)
			if access.Allowed(l, op, n) != (one && want&op != 0) {
				t.Error(n, op)
			}
		}
	}
	all := []api.Rule{{Ops: api.OpAll, Cond: always}}
	for _, op := range []int{math.MinInt, math.MaxInt, 1 << 32, 1<<32 + 1, 256} {
		if access.Allowed(all, op, full) {
			t.Error(op)
		}
	}
	if access.Allowed(nil, api.OpRead, full) {
		t.Error("without rules nothing is allowed")
	}
}

// TestAllowedOfWrongRules is about rules of which one permits the operation, but another one is not valid.
func TestAllowedOfWrongRules(t *testing.T) {
	good := api.Rule{Ops: api.OpRead, Cond: always}
	if access.Allowed(slices.Repeat([]api.Rule{good}, 9), api.OpRead, full) || !access.Allowed(slices.Repeat([]api.Rule{good}, 8), api.OpRead, full) {
		t.Error("the number of rules")
	}
	for _, c := range slices.Concat(invalid, long) {
		wrong := api.Rule{Ops: api.OpUpdate, Cond: c}
		if access.Allowed([]api.Rule{good, wrong}, api.OpRead, full) || access.Allowed([]api.Rule{wrong, good}, api.OpRead, full) {
			t.Error(c)
		}
	}
	for _, ops := range []int{0, -1, 256, 257} {
		if access.Allowed([]api.Rule{good, {Ops: ops, Cond: always}}, api.OpRead, full) {
			t.Error(ops)
		}
	}
}

// P14.8

func TestMoreRights(t *testing.T) {
	r := rand.New(rand.NewPCG(14, 8))
	allowed := 0
	for range 20000 {
		var l []api.Rule
		for range 1 + r.IntN(3) {
			l = append(l, api.Rule{Ops: 1 + r.IntN(255), Cond: random(r, 8, 8, false)})
		}
		s, op := randomStatus(r), 1<<r.IntN(8)
		more := api.Security{Pins: s.Pins | r.IntN(64), Keys: s.Keys | r.IntN(64), State: s.State + r.IntN(3), Level: s.Level | r.IntN(64)}
		if access.Allowed(l, op, s) {
			allowed++
			if !access.Allowed(l, op, more) {
				t.Fatal(l, op, s, more)
			}
		}
	}
	if allowed < 1000 {
		t.Error(allowed)
	}
}

// P14.3

// statuses are all those that the conditions of random can tell apart.
func statuses() []api.Security {
	var l []api.Security
	for pins := range 8 {
		for keys := range 4 {
			for state := range 6 {
				for bits := range 16 {
					l = append(l, api.Security{Pins: pins << 1, Keys: keys << 1, State: state, Level: bits%4 | bits/4<<4})
				}
			}
		}
	}
	return l
}

func TestImpliesExamples(t *testing.T) {
	for _, x := range []struct {
		a, b api.Cond
		want bool
	}{
		{pin(1), or(pin(1), pin(2)), true},
		{or(pin(1), pin(2)), pin(1), false},
		{state(3), state(2), true},
		{state(2), state(3), false},
		{level(1), level(3), false},
		{level(3), level(1), true},
		{and(level(1), level(2)), level(3), true},
		{level(0x13), and(level(0x10), or(level(2), never)), true},
		{or(level(1), level(2)), level(3), false},
		{always, state(1), false}, // the state can be any number
		{always, or(never), false},
		{always, and(always), true},
		{never, never, true},
		{and(pin(1), never), key(1), true},
		{or(never, never), pin(1), true},
		{pin(1), key(1), false},
		{pin(1), pin(2), false},
		{and(or(pin(1), pin(2)), or(key(1), key(2))), or(and(pin(1), key(1)), and(pin(1), key(2)), and(pin(2), key(1)), and(pin(2), key(2))), true},
		{and(or(pin(1), pin(2)), or(key(1), key(2))), or(and(pin(1), key(1)), and(pin(1), key(2)), and(pin(2), key(1))), false},
		{or(state(2), state(4)), state(2), true},
		{and(state(2), state(4)), state(4), true},
	} {
		if access.Implies(x.a, x.b) != x.want {
			t.Error(x.a, x.b, !x.want)
		}
	}
}

func TestImpliesOfWrongConditions(t *testing.T) {
	for _, c := range slices.Concat(invalid, long) {
		for _, good := range []api.Cond{always, never} {
			if access.Implies(c, good) || access.Implies(good, c) || access.Implies(c, c) {
				t.Error(c)
			}
		}
	}
}

func TestImplies(t *testing.T) {
	r := rand.New(rand.NewPCG(14, 3))
	all := statuses()
	yes := 0
	for range 4000 {
		a, b := random(r, 16, 8, false), random(r, 1+r.IntN(16), 8, false)
		want := !slices.ContainsFunc(all, func(s api.Security) bool { return satisfied(a, s) && !satisfied(b, s) })
		if access.Implies(a, b) != want {
			t.Fatal(a, b, want)
		}
		if want {
			yes++
		}
	}
	if yes < 400 || yes > 3600 {
		t.Error("most of the pairs are alike:", yes)
	}
}

// TestImpliesOfManyChoices is about conditions that can be satisfied in as many ways as there can be.
func TestImpliesOfManyChoices(t *testing.T) {
	a := and(or(pin(1), pin(2)), or(pin(3), pin(4)), or(pin(5), pin(6)), or(pin(7), pin(8)), or(key(1), key(2)))
	b := and(or(pin(1), pin(2), pin(3), pin(4)), or(pin(5), pin(6), pin(7), pin(8)), or(key(1), key(2), key(3)))
	if access.Check(a) != api.OK || access.Check(b) != api.OK || !access.Implies(a, b) || access.Implies(b, a) {
		t.Error("Implies")
	}
}

// P14.7

func TestConsequencesOfImplies(t *testing.T) {
	r := rand.New(rand.NewPCG(14, 7))
	chains := 0
	for range 20000 {
		a, b, c := random(r, 6, 8, false), random(r, 6, 8, false), random(r, 6, 8, false)
		if !access.Implies(a, a) || !access.Implies(never, a) || !access.Implies(a, always) {
			t.Fatal(a)
		}
		if access.Implies(a, b) && access.Implies(b, c) {
			chains++
			if !access.Implies(a, c) {
				t.Fatal(a, b, c)
			}
		}
		for _, kid := range []api.Cond{a, b, c} {
			if !access.Implies(and(a, b, c), kid) && access.Check(and(a, b, c)) == api.OK || !access.Implies(kid, or(a, b, c)) && access.Check(or(a, b, c)) == api.OK {
				t.Fatal(a, b, c, kid)
			}
		}
	}
	if chains < 300 {
		t.Error(chains)
	}
	for _, c := range samples {
		if !access.Implies(c, c) || !access.Implies(never, c) || !access.Implies(c, always) {
			t.Error(c)
		}
	}
}
