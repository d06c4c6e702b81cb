package registry

import (
	"maps"
	"slices"

	"smartcard/api"
	"smartcard/octets"
)

// entries is the entries of a registry by their items; all of them have different identifiers.
type entries map[int]api.Entry

// find returns the item of the entry with an identifier, 0 if there is none.
func (l entries) find(aid []byte) int {
	for id, e := range l {
		if octets.Compare(e.AID, aid) == 0 {
			return id
		}
	}
	return 0
}

// some reports whether an entry is one of those that are searched for.
func (l entries) some(fits func(e api.Entry) bool) bool {
	for _, e := range l {
		if fits(e) {
			return true
		}
	}
	return false
}

// hasDomain reports whether there is a security domain with an identifier.
func (l entries) hasDomain(aid []byte) bool { return l[l.find(aid)].Kind == api.EntryDomain }

// hasPackage reports whether there is a package with a number.
func (l entries) hasPackage(n int) bool {
	return l.some(func(e api.Entry) bool { return e.Kind == api.EntryPackage && e.Package == n })
}

// accept returns the error of a new entry, which is valid.
func (l entries) accept(e api.Entry) api.Errno {
	switch {
	case l.find(e.AID) != 0:
		return api.ErrTwice
	case isIssuer(e) && len(l) > 0:
		return api.ErrState
	case !isIssuer(e) && !l.hasDomain(e.Domain):
		return api.ErrNone
	case e.Kind == api.EntryApp && !l.hasPackage(e.Package):
		return api.ErrNone
	case e.Kind == api.EntryPackage && l.hasPackage(e.Package):
		return api.ErrTwice
	case isDefault(e) && l.some(isDefault):
		return api.ErrState
	case len(l) >= api.MaxApps:
		return api.ErrFull
	}
	return api.OK
}

// free returns the first item that no entry has.
func (l entries) free() int {
	id := api.ItemRegistry
	for l[id].Kind != 0 {
		id++
	}
	return id
}

// sorted returns the values of a map in an order in which no two of them are equal.
func sorted[K comparable, V any](m map[K]V, compare func(a, b V) int) []V {
	return slices.SortedFunc(maps.Values(m), compare)
}
