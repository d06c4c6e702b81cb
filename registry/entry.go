package registry

import (
	"bytes"

	"smartcard/api"
	"smartcard/lifecycle"
	"smartcard/octets"
)

// The item of an entry is its kind, its states, its privileges, the numbers of its package and of its object, and the number of bytes of its identifier; then both identifiers follow.
const (
	headBytes   = 8
	objectBytes = 2
)

// Check reports whether an entry is valid.
func Check(e api.Entry) api.Errno {
	switch {
	case !validAID(e.AID) || !validAID(e.Domain):
		return api.ErrArg
	case !validNumbers(e) || !validStates(e):
		return api.ErrArg
	case e.Privileges&^api.PrivAll != 0:
		return api.ErrArg
	case e.Kind != api.EntryDomain && octets.Compare(e.Domain, e.AID) == 0:
		return api.ErrArg
	}
	return api.OK
}

func validAID(aid []byte) bool { return len(aid) >= api.MinAID && len(aid) <= api.MaxAID }

// validNumbers reports whether an entry is of a kind, and has the numbers and the privileges that its kind permits.
func validNumbers(e api.Entry) bool {
	switch e.Kind {
	case api.EntryDomain:
		return e.Package == 0 && e.Object == 0
	case api.EntryApp:
		return validPackage(e.Package) && e.Object >= 1 && e.Object <= api.MaxObjects
	case api.EntryPackage:
		return validPackage(e.Package) && e.Object == 0 && e.Privileges == 0
	}
	return false
}

func validPackage(n int) bool { return n >= 1 && n <= api.MaxPackages }

// validStates reports whether an entry has a state of its kind, and the state before it was locked if it is locked.
func validStates(e api.Entry) bool {
	if _, err := lifecycle.Byte(e.Kind, e.State); err != api.OK {
		return false
	}
	if e.State == api.AppLocked {
		return e.Before >= api.AppInstalled && e.Before <= api.AppPersonal
	}
	return e.Before == 0
}

// Same reports whether two entries are equal.
func Same(a, b api.Entry) bool {
	return octets.Compare(a.AID, b.AID) == 0 && octets.Compare(a.Domain, b.Domain) == 0 &&
		a.Kind == b.Kind && a.State == b.State && a.Before == b.Before &&
		a.Privileges == b.Privileges && a.Package == b.Package && a.Object == b.Object
}

// isIssuer reports whether an entry is an issuer's domain.
func isIssuer(e api.Entry) bool {
	return e.Kind == api.EntryDomain && octets.Compare(e.Domain, e.AID) == 0
}

func isDefault(e api.Entry) bool { return e.Privileges&api.PrivDefault != 0 }

// canSelect reports whether an entry can be selected.
func canSelect(e api.Entry) bool {
	return e.Kind != api.EntryPackage && (e.State == api.AppSelectable || e.State == api.AppPersonal)
}

// depends reports whether an entry depends on another one.
func depends(e, other api.Entry) bool {
	if octets.Compare(e.Domain, other.AID) == 0 {
		return true
	}
	return e.Kind == api.EntryApp && other.Kind == api.EntryPackage && e.Package == other.Package
}

// encode returns the item of an entry, which is valid.
func encode(e api.Entry) []byte {
	object, _ := octets.Put(e.Object, objectBytes) // cannot fail, as the number is valid
	numbers := []byte{byte(e.Kind), byte(e.State), byte(e.Before), byte(e.Privileges), byte(e.Package)}
	return octets.Join(numbers, object, []byte{byte(len(e.AID))}, e.AID, e.Domain)
}

// decode returns the entry with an item; false if there is none.
func decode(b []byte) (api.Entry, bool) {
	if len(b) < headBytes {
		return api.Entry{}, false
	}
	head, names := b[:headBytes], b[headBytes:]
	n := int(head[7])
	if n > len(names) {
		return api.Entry{}, false
	}
	object, _ := octets.Get(head[5:7])
	e := api.Entry{
		AID: bytes.Clone(names[:n]), Domain: bytes.Clone(names[n:]),
		Kind: int(head[0]), State: int(head[1]), Before: int(head[2]), Privileges: int(head[3]),
		Package: int(head[4]), Object: object,
	}
	if Check(e) != api.OK {
		return api.Entry{}, false
	}
	return e, true
}
