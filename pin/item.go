package pin

import (
	"bytes"

	"smartcard/api"
	"smartcard/batch"
)

// The definition of a PIN begins with Min, Max, both limits, and the number of bytes of the value; then the value and the unblocking code follow. The counters are a byte for each.
const (
	headBytes     = 5
	countersBytes = 2
)

// secret is what guesses are compared with: the value of a PIN, or its unblocking code.
type secret struct {
	bytes        []byte
	limit, tries int
}

// pin is a PIN, as the transaction sees it.
type pin struct {
	id, min, max int
	value, code  secret
}

// valid reports whether a definition is valid.
func valid(d api.Pin) bool {
	if d.ID < 1 || d.ID > api.MaxPins || d.Min < 1 || d.Min > d.Max || d.Max > api.MaxPin {
		return false
	}
	if len(d.Value) < d.Min || len(d.Value) > d.Max || !validLimit(d.Limit) {
		return false
	}
	if len(d.Unblock) == 0 {
		return d.UnblockLimit == 0
	}
	return len(d.Unblock) <= api.MaxPin && validLimit(d.UnblockLimit)
}

func validLimit(n int) bool { return n >= 1 && n <= api.MaxTries }

// newPin returns the PIN with a definition, with all of its tries.
func newPin(d api.Pin) *pin {
	value := secret{d.Value, d.Limit, d.Limit}
	code := secret{d.Unblock, d.UnblockLimit, d.UnblockLimit}
	return &pin{d.ID, d.Min, d.Max, value, code}
}

// takes reports whether a value has as many bytes as one of this PIN.
func (x *pin) takes(value []byte) bool { return len(value) >= x.min && len(value) <= x.max }

func (x *pin) definitionItem() int { return definitionItem(x.id) }

func (x *pin) countersItem() int { return countersItem(x.id) }

func definitionItem(id int) int { return api.ItemPins + id }

func countersItem(id int) int { return api.ItemPins + api.MaxPins + id }

// definition returns the item of the definition.
func (x *pin) definition() []byte {
	head := []byte{byte(x.min), byte(x.max), byte(x.value.limit), byte(x.code.limit), byte(len(x.value.bytes))}
	return bytes.Join([][]byte{head, x.value.bytes, x.code.bytes}, nil)
}

// counters returns the item of the counters.
func (x *pin) counters() []byte { return []byte{byte(x.value.tries), byte(x.code.tries)} }

// read reads a PIN; nil if its items are not those of one.
func (p *Pins) read(id int) *pin {
	b, _ := p.v.Get(definitionItem(id))
	if len(b) < headBytes {
		return nil
	}
	head, secrets := b[:headBytes], b[headBytes:]
	n := int(head[4])
	if n > len(secrets) {
		return nil
	}
	d := api.Pin{
		ID: id, Min: int(head[0]), Max: int(head[1]),
		Value: secrets[:n], Limit: int(head[2]),
		Unblock: secrets[n:], UnblockLimit: int(head[3]),
	}
	if !valid(d) {
		return nil
	}
	x := newPin(d)
	if c, _ := p.v.Get(countersItem(id)); !x.take(c) {
		return nil
	}
	return x
}

// take takes the tries from the item of the counters; false if it is not one of this PIN.
func (x *pin) take(counters []byte) bool {
	if len(counters) != countersBytes {
		return false
	}
	x.value.tries, x.code.tries = int(counters[0]), int(counters[1])
	return x.value.tries <= x.value.limit && x.code.tries <= x.code.limit
}

// store stores a PIN: in the transaction, if there is one.
func (p *Pins) store(x *pin) api.Errno {
	return batch.Do(p.v, func() api.Errno {
		if e := p.v.Put(x.definitionItem(), x.definition()); e != api.OK {
			return e
		}
		return p.v.Put(x.countersItem(), x.counters())
	})
}

// count stores the tries of a PIN, at once.
func (p *Pins) count(x *pin) api.Errno { return p.v.Now(x.countersItem(), x.counters()) }
