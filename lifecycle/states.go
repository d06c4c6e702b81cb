package lifecycle

import (
	"slices"

	"smartcard/api"
)

const card = 0 // stands for the card, among the kinds of entries

// transition is a change from a state to another one.
type transition struct {
	from, to int
}

// denoted is a state, and the byte that denotes it.
type denoted struct {
	state, code int
}

// Card reports whether the card may change from a state to another one.
func Card(from, to int) bool {
	return slices.Contains([]transition{
		{api.CardReady, api.CardInitialized},
		{api.CardInitialized, api.CardSecured},
		{api.CardSecured, api.CardLocked},
		{api.CardLocked, api.CardSecured},
		{api.CardReady, api.CardEnded},
		{api.CardInitialized, api.CardEnded},
		{api.CardSecured, api.CardEnded},
		{api.CardLocked, api.CardEnded},
	}, transition{from, to})
}

// App reports whether an entry of a kind may change from a state to another one.
func App(kind, from, to int) bool {
	if kind != api.EntryApp && kind != api.EntryDomain {
		return false
	}
	return slices.Contains([]transition{
		{api.AppInstalled, api.AppSelectable},
		{api.AppSelectable, api.AppPersonal},
		{api.AppInstalled, api.AppLocked},
		{api.AppSelectable, api.AppLocked},
		{api.AppPersonal, api.AppLocked},
		{api.AppLocked, api.AppInstalled},
		{api.AppLocked, api.AppSelectable},
		{api.AppLocked, api.AppPersonal},
	}, transition{from, to})
}

// Byte returns the byte for a state of an entry of a kind; kind 0 stands for the card.
func Byte(kind, state int) (int, api.Errno) {
	x, e := find(kind, func(x denoted) bool { return x.state == state })
	return x.code, e
}

// State returns the state for a byte.
func State(kind, b int) (int, api.Errno) {
	x, e := find(kind, func(x denoted) bool { return x.code == b })
	return x.state, e
}

// find finds a state of a kind.
func find(kind int, fits func(x denoted) bool) (denoted, api.Errno) {
	l := states(kind)
	if len(l) == 0 {
		return denoted{}, api.ErrArg
	}
	i := slices.IndexFunc(l, fits)
	if i < 0 {
		return denoted{}, api.ErrRange
	}
	return l[i], api.OK
}

// states returns the states of a kind; none if there is no such kind.
func states(kind int) []denoted {
	switch kind {
	case card:
		return []denoted{
			{api.CardReady, 0x01},
			{api.CardInitialized, 0x07},
			{api.CardSecured, 0x0f},
			{api.CardLocked, 0x7f},
			{api.CardEnded, 0xff},
		}
	case api.EntryPackage:
		return []denoted{{api.AppLoaded, 0x01}}
	case api.EntryApp, api.EntryDomain:
		return []denoted{
			{api.AppInstalled, 0x03},
			{api.AppSelectable, 0x07},
			{api.AppPersonal, 0x0f},
			{api.AppLocked, 0x83},
		}
	}
	return nil
}

// isCardState reports whether a number is a state of the card.
func isCardState(state int) bool {
	_, e := Byte(card, state)
	return e == api.OK
}
