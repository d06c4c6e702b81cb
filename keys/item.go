package keys

import "smartcard/api"

const (
	setItems = 8 // the items that are reserved for a set

	// The item of a key begins with its limit and its tries; the value follows.
	headBytes = 2
)

// name is what a key is found by.
type name struct {
	set, kind int
}

func (n name) valid() bool {
	return validSet(n.set) && n.kind >= api.KeyEnc && n.kind <= api.KeyFile
}

func validSet(set int) bool { return set >= 1 && set <= api.MaxSets }

func (n name) item() int { return api.ItemKeys + setItems*n.set + n.kind }

// nameOf returns the name of the key with an item of this layer.
func nameOf(id int) name {
	return name{(id - api.ItemKeys) / setItems, (id - api.ItemKeys) % setItems}
}

// key is a key with the tries that are left. The limit is never 0.
type key struct {
	limit, tries int
	value        [api.KeyBytes]byte
}

func validLimit(n int) bool { return n >= 1 && n <= api.MaxTries }

// encode returns the item of a key.
func (x key) encode() []byte {
	return append([]byte{byte(x.limit), byte(x.tries)}, x.value[:]...)
}

// decode returns the key with an item, the zero key if there is none.
func decode(b []byte) key {
	if len(b) != headBytes+api.KeyBytes {
		return key{}
	}
	x := key{int(b[0]), int(b[1]), [api.KeyBytes]byte(b[headBytes:])}
	if !validLimit(x.limit) || x.tries > x.limit {
		return key{}
	}
	return x
}
