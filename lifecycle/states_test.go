package lifecycle_test

import (
	"slices"
	"testing"

	"smartcard/api"
	"smartcard/lifecycle"
)

// numbers returns all small numbers, and some that are not.
func numbers() []int {
	l := slices.Clone(strange)
	for n := range 300 {
		l = append(l, n-20)
	}
	return l
}

// kinds returns the kinds, and numbers that are none.
func kinds() []int { return append([]int{0, 1, 2, 3, 4, 5, 6}, strange...) }

// P25.2

func TestCard(t *testing.T) {
	permitted := map[[2]int]bool{
		{api.CardReady, api.CardInitialized}: true, {api.CardInitialized, api.CardSecured}: true,
		{api.CardSecured, api.CardLocked}: true, {api.CardLocked, api.CardSecured}: true,
	}
	for state := api.CardReady; state < api.CardEnded; state++ {
		permitted[[2]int{state, api.CardEnded}] = true
	}
	for _, from := range numbers() {
		for _, to := range numbers() {
			if lifecycle.Card(from, to) != permitted[[2]int{from, to}] {
				t.Fatal("Card of", from, to, "is", !permitted[[2]int{from, to}])
			}
		}
	}
}

func TestApp(t *testing.T) {
	permitted := map[[2]int]bool{{api.AppInstalled, api.AppSelectable}: true, {api.AppSelectable, api.AppPersonal}: true}
	for state := api.AppInstalled; state <= api.AppPersonal; state++ {
		permitted[[2]int{state, api.AppLocked}] = true
		permitted[[2]int{api.AppLocked, state}] = true
	}
	for _, kind := range kinds() {
		for _, from := range numbers() {
			for _, to := range numbers() {
				want := (kind == api.EntryApp || kind == api.EntryDomain) && permitted[[2]int{from, to}]
				if lifecycle.App(kind, from, to) != want {
					t.Fatal("App of", kind, from, to, "is", !want)
				}
			}
		}
	}
}

// P25.3

// bytesOf returns the bytes for the states of a kind; nothing if there is no such kind.
func bytesOf(kind int) map[int]int {
	switch kind {
	case 0:
		return map[int]int{api.CardReady: 0x01, api.CardInitialized: 0x07, api.CardSecured: 0x0f, api.CardLocked: 0x7f, api.CardEnded: 0xff}
	case api.EntryPackage:
		return map[int]int{api.AppLoaded: 0x01}
	case api.EntryApp, api.EntryDomain:
		return map[int]int{api.AppInstalled: 0x03, api.AppSelectable: 0x07, api.AppPersonal: 0x0f, api.AppLocked: 0x83}
	}
	return nil
}

// expectResult compares a result with the one of a table: ErrArg if there is no table, ErrRange if it does not have the number.
func expectResult(t *testing.T, what string, kind, n, got int, e api.Errno, table map[int]int) {
	t.Helper()
	want, ok := table[n]
	wantE := api.OK
	switch {
	case table == nil:
		wantE = api.ErrArg
	case !ok:
		wantE = api.ErrRange
	}
	if got != want || e != wantE {
		t.Fatal(what, "of", kind, n, "returns", got, e, "and not", want, wantE)
	}
}

func TestByteAndState(t *testing.T) {
	for _, kind := range kinds() {
		table := bytesOf(kind)
		var back map[int]int
		for state, b := range table {
			if back == nil {
				back = map[int]int{}
			}
			back[b] = state
		}
		if len(back) != len(table) {
			t.Fatal("two states of", kind, "have the same byte")
		}
		for _, n := range numbers() {
			b, e := lifecycle.Byte(kind, n)
			expectResult(t, "Byte", kind, n, b, e, table)
			state, e := lifecycle.State(kind, n)
			expectResult(t, "State", kind, n, state, e, back)
		}
	}
}

func TestExampleOfBytes(t *testing.T) {
	if b, e := lifecycle.Byte(api.EntryApp, api.AppLocked); b != 131 || e != api.OK {
		t.Error("Byte of AppLocked returns", b, e)
	}
	if b, e := lifecycle.Byte(api.EntryPackage, api.AppLocked); b != 0 || e != api.ErrRange {
		t.Error("Byte of AppLocked of a package returns", b, e)
	}
	if state, e := lifecycle.State(0, 15); state != api.CardSecured || e != api.OK {
		t.Error("State of 15 returns", state, e)
	}
}

// P25.5

func TestRoundTrip(t *testing.T) {
	count := 0
	for _, kind := range kinds() {
		for _, state := range numbers() {
			b, e := lifecycle.Byte(kind, state)
			if e != api.OK {
				continue
			}
			count++
			if got, e := lifecycle.State(kind, b); got != state || e != api.OK || b < 1 || b > 255 {
				t.Error("State of Byte of", kind, state, "returns", got, e)
			}
		}
	}
	if count != 5+1+4+4 {
		t.Error("there are", count, "states")
	}
}

// P25.4, as far as it is about transitions: what can be reached from a state.
func TestReach(t *testing.T) {
	for from, want := range map[int][]int{
		api.CardReady:       {2, 3, 4, 5},
		api.CardInitialized: {3, 4, 5},
		api.CardSecured:     {3, 4, 5},
		api.CardLocked:      {3, 4, 5},
		api.CardEnded:       nil,
	} {
		var reached []int
		var visit func(state int)
		visit = func(state int) {
			for to := range 7 {
				if lifecycle.Card(state, to) && !slices.Contains(reached, to) {
					reached = append(reached, to)
					visit(to)
				}
			}
		}
		visit(from)
		slices.Sort(reached)
		if !slices.Equal(reached, want) {
			t.Error("from", from, "one reaches", reached)
		}
	}
}
