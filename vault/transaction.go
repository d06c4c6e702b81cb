package vault

import (
	"bytes"
	"maps"
	"slices"

	"smartcard/api"
)

const changeNeed = 8 // of the commit buffer, for each changed item, in addition to its data

// change is a change of an item: its new data, or none if the item is gone.
type change struct {
	data []byte
	gone bool
}

func validID(id int) bool { return id >= 1 && id <= api.MaxItems }

func validItem(id int, b []byte) bool { return validID(id) && len(b) <= api.MaxItem }

// Put creates or replaces an item: in the transaction, if there is one.
func (v *Vault) Put(id int, b []byte) api.Errno {
	if e := v.ready(validItem(id, b)); e != api.OK {
		return e
	}
	return v.do(id, change{data: bytes.Clone(b)})
}

// Delete deletes an item: in the transaction, if there is one.
func (v *Vault) Delete(id int) api.Errno {
	if e := v.ready(validID(id)); e != api.OK {
		return e
	}
	if !v.sees(id) {
		return api.ErrNone
	}
	return v.do(id, change{gone: true})
}

// do makes a change: in the transaction, or else in one of its own.
func (v *Vault) do(id int, c change) (e api.Errno) {
	v.push(id, c)
	switch {
	case v.need() > api.CommitBytes:
		e = api.ErrBuffer
	case !c.gone && v.seen() > v.log.room():
		e = api.ErrFull
	case !v.active:
		e = v.log.add(v.entries())
	}
	if e != api.OK || !v.active {
		v.pop()
	}
	return e
}

// Now creates or replaces an item at once, whether or not there is a transaction.
func (v *Vault) Now(id int, b []byte) api.Errno {
	if e := v.ready(validItem(id, b)); e != api.OK {
		return e
	}
	if _, ok := v.changed(id); ok {
		return api.ErrState
	}
	more := itemWeight + len(b) - v.log.weightOf(id) // for the persistent items, and for what the transaction sees
	if max(v.log.weight(), v.seen())+more > v.log.room() {
		return api.ErrFull
	}
	return v.log.add(entry(nil, id, change{data: b}))
}

// Begin begins a transaction.
func (v *Vault) Begin() api.Errno {
	if e := v.ready(true); e != api.OK {
		return e
	}
	if v.active {
		return api.ErrState
	}
	v.active = true
	return api.OK
}

// within returns the errors of calls that need a transaction.
func (v *Vault) within() api.Errno {
	if e := v.ready(true); e != api.OK {
		return e
	}
	if !v.active {
		return api.ErrState
	}
	return api.OK
}

// Commit makes the changes of the transaction, all of them or none.
func (v *Vault) Commit() api.Errno {
	if e := v.within(); e != api.OK {
		return e
	}
	if v.seen() > v.log.room() {
		return api.ErrFull
	}
	if e := v.log.add(v.entries()); e != api.OK {
		return e
	}
	return v.Abort() // what is left to do is to forget the changes
}

// Abort forgets the changes of the transaction.
func (v *Vault) Abort() api.Errno {
	if e := v.within(); e != api.OK {
		return e
	}
	v.active, v.order = false, nil
	clear(v.changes)
	return api.OK
}

// Active reports whether there is a transaction.
func (v *Vault) Active() bool { return v.Alive() && v.active }

// Save returns a mark in the transaction.
func (v *Vault) Save() int {
	if !v.Alive() {
		return 0
	}
	return len(v.order)
}

// Back forgets the changes of the transaction since a mark.
func (v *Vault) Back(mark int) api.Errno {
	if e := v.within(); e != api.OK {
		return e
	}
	if mark < 0 || mark > len(v.order) {
		return api.ErrRange
	}
	for len(v.order) > mark {
		v.pop()
	}
	return api.OK
}

// Left returns the number of bytes that are left in the commit buffer.
func (v *Vault) Left() int {
	if !v.Alive() {
		return 0
	}
	return api.CommitBytes - v.need()
}

// push adds a change to those of the transaction.
func (v *Vault) push(id int, c change) {
	v.changes[id] = append(v.changes[id], c)
	v.order = append(v.order, id)
}

// pop forgets the last change.
func (v *Vault) pop() {
	last := len(v.order) - 1
	id := v.order[last]
	v.order = v.order[:last]
	l := v.changes[id]
	if len(l) == 1 {
		delete(v.changes, id)
		return
	}
	l[len(l)-1] = change{}
	v.changes[id] = l[:len(l)-1]
}

// changed returns the last change of an item in the transaction, if there is one.
func (v *Vault) changed(id int) (change, bool) {
	l := v.changes[id]
	if len(l) == 0 {
		return change{}, false
	}
	return l[len(l)-1], true
}

// sees reports whether the transaction sees an item.
func (v *Vault) sees(id int) bool {
	if c, ok := v.changed(id); ok {
		return !c.gone
	}
	return v.log.has(id)
}

// need returns the need of the transaction.
func (v *Vault) need() int {
	n := 0
	for id := range v.changes {
		c, _ := v.changed(id)
		n += changeNeed + len(c.data)
	}
	return n
}

// seen returns the weight of what the transaction sees.
func (v *Vault) seen() int {
	n := v.log.weight()
	for id := range v.changes {
		n -= v.log.weightOf(id)
		if c, _ := v.changed(id); !c.gone {
			n += itemWeight + len(c.data)
		}
	}
	return n
}

// entries returns the entries of the log that make the changes of the transaction persistent. Those of items that are gone come first, as the log expects it.
func (v *Vault) entries() []byte {
	var without, with []byte
	for _, id := range slices.Sorted(maps.Keys(v.changes)) {
		c, _ := v.changed(id)
		switch {
		case !c.gone:
			with = entry(with, id, c)
		case v.log.has(id): // items that have come and gone within the transaction leave no trace
			without = entry(without, id, c)
		}
	}
	return append(without, with...)
}
