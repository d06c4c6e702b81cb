package access

import (
	"smartcard/api"
	"smartcard/tlv"
)

const ruleTag = 0x80

// Encode returns the bytes of rules.
func Encode(l []api.Rule) ([]byte, api.Errno) {
	if e := CheckRules(l); e != api.OK {
		return nil, e
	}
	var objects []api.TLV
	for _, r := range l {
		objects = append(objects, api.TLV{Tag: ruleTag, Value: write([]byte{byte(r.Ops)}, r.Cond)})
	}
	return tlv.Encode(objects)
}

// write adds the encoding of a condition that was checked to bytes.
func write(b []byte, c api.Cond) []byte {
	b = append(b, byte(c.Op))
	switch k := kinds[c.Op]; {
	case k.numbered():
		b = append(b, byte(c.N))
	case k.kids:
		b = append(b, byte(len(c.Kids)))
	}
	for _, kid := range c.Kids {
		b = write(b, kid)
	}
	return b
}

// Decode returns the rules with the given bytes.
func Decode(b []byte) ([]api.Rule, api.Errno) {
	objects, e := tlv.Decode(b)
	if e != api.OK {
		return nil, e
	}
	var l []api.Rule
	for _, o := range objects {
		r, ok := readRule(o)
		if !ok {
			return nil, api.ErrForm
		}
		l = append(l, r)
	}
	if CheckRules(l) != api.OK {
		return nil, api.ErrForm
	}
	return l, api.OK
}

// readRule returns the rule, which need not be valid, of a data object; false if it is none.
func readRule(o api.TLV) (api.Rule, bool) {
	if o.Tag != ruleTag || len(o.Value) == 0 {
		return api.Rule{}, false
	}
	c, rest, ok := read(o.Value[1:])
	if !ok || len(rest) > 0 {
		return api.Rule{}, false
	}
	return api.Rule{Ops: int(o.Value[0]), Cond: c}, true
}

// read returns the condition with which bytes begin, and the bytes after it; false if there is none.
func read(b []byte) (c api.Cond, rest []byte, ok bool) {
	if len(b) == 0 || int(b[0]) >= len(kinds) {
		return api.Cond{}, nil, false
	}
	k := kinds[b[0]]
	c, b = api.Cond{Op: int(b[0])}, b[1:]
	if !k.numbered() && !k.kids {
		return c, b, true
	}
	if len(b) == 0 {
		return api.Cond{}, nil, false
	}
	n, b := int(b[0]), b[1:]
	if k.numbered() {
		c.N = n
		return c, b, true
	}
	for range n {
		var kid api.Cond
		if kid, b, ok = read(b); !ok {
			return api.Cond{}, nil, false
		}
		c.Kids = append(c.Kids, kid)
	}
	return c, b, true
}
