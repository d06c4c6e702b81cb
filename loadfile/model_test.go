package loadfile_test

import (
	"slices"

	"smartcard/api"
	"smartcard/code"
)

// judge examines the statements of the document one after the other, until one of them is not fulfilled.
type judge struct {
	p api.Package
	e api.Errno
}

func (j *judge) need(e api.Errno, fulfilled func() bool) {
	if j.e == api.OK && !fulfilled() {
		j.e = e
	}
}

// each calls f for 0 to n - 1, as long as everything is fulfilled.
func (j *judge) each(n int, f func(k int)) {
	for k := 0; k < n && j.e == api.OK; k++ {
		f(k)
	}
}

func between(least, n, most int) bool { return least <= n && n <= most }

func (j *judge) reachable(r api.Ref) bool {
	if r.Package == 255 {
		return r.Class == 0 || r.Class == 1
	}
	if r.Package == 0 {
		return between(0, r.Class, len(j.p.Classes)-1)
	}
	return between(1, r.Package, len(j.p.Imports)) && between(0, r.Class, 31)
}

func (j *judge) usable(t api.Type) bool {
	switch t.Kind {
	case api.TypeInt, api.TypeBytes, api.TypeInts, api.TypeRefs:
		return t.Class.Package == 0 && t.Class.Class == 0
	case api.TypeClass:
		return j.reachable(t.Class)
	}
	return false
}

func (j *judge) aid(b []byte) { j.need(api.ErrArg, func() bool { return between(5, len(b), 16) }) }

func (j *judge) version(major, minor int) {
	j.need(api.ErrRange, func() bool { return between(0, major, 255) })
	j.need(api.ErrRange, func() bool { return between(0, minor, 255) })
}

func (j *judge) atMost(n, most int) { j.need(api.ErrLong, func() bool { return n <= most }) }

func (j *judge) types(l []api.Type) {
	j.each(len(l), func(k int) { j.need(api.ErrType, func() bool { return j.usable(l[k]) }) })
}

// checked is what Check has to return.
func checked(p api.Package) api.Errno {
	j := &judge{p: p}
	j.aid(p.AID)
	j.version(p.Major, p.Minor)
	j.atMost(len(p.Imports), 4)
	j.atMost(len(p.Classes), 32)
	j.atMost(len(p.Methods), 64)
	j.atMost(len(p.Statics), 16)
	j.atMost(len(p.Applets), 32)
	names := map[string]bool{string(p.AID): true}
	j.each(len(p.Imports), func(k int) {
		i := p.Imports[k]
		j.aid(i.AID)
		j.version(i.Major, i.Minor)
		j.need(api.ErrTwice, func() bool { return !names[string(i.AID)] })
		names[string(i.AID)] = true
	})
	j.each(len(p.Classes), j.class)
	j.each(len(p.Methods), func(k int) { j.method(p.Methods[k]) })
	j.types(p.Statics)
	applets := map[string]bool{}
	j.each(len(p.Applets), func(k int) { j.applet(p.Applets[k], applets) })
	j.need(api.ErrLong, func() bool { return len(encoded(p)) <= 2048 })
	return j.e
}

func (j *judge) earlier(n int, r api.Ref) {
	j.need(api.ErrRange, func() bool { return j.reachable(r) })
	j.need(api.ErrOrder, func() bool { return r.Package != 0 || r.Class < n })
}

func (j *judge) class(n int) {
	c := j.p.Classes[n]
	j.earlier(n, c.Super)
	if c.Interface {
		j.need(api.ErrForm, func() bool {
			return c.Super.Package == 255 && c.Super.Class == 0 && len(c.Fields) == 0 && len(c.Impls) == 0
		})
	} else {
		j.need(api.ErrForm, func() bool { return len(c.Extends) == 0 })
	}
	j.atMost(len(c.Extends), 32)
	j.atMost(len(c.Fields), 16)
	j.atMost(len(c.Virtuals), 16)
	j.atMost(len(c.Impls), 32)
	j.each(len(c.Extends), func(k int) { j.earlier(n, c.Extends[k]) })
	j.types(c.Fields)
	seen := map[int]bool{}
	j.each(len(c.Virtuals), func(k int) {
		v := c.Virtuals[k]
		j.need(api.ErrRange, func() bool { return between(-1, v, len(j.p.Methods)-1) })
		if v == -1 {
			j.need(api.ErrForm, func() bool { return !c.Interface })
			return
		}
		j.need(api.ErrForm, func() bool { return !j.p.Methods[v].Static })
		j.need(api.ErrForm, func() bool { return j.p.Methods[v].Class == n })
		j.need(api.ErrTwice, func() bool { return !seen[v] })
		seen[v] = true
	})
	faces := map[api.Ref]bool{}
	j.each(len(c.Impls), func(k int) {
		i := c.Impls[k]
		j.need(api.ErrRange, func() bool { return j.reachable(i.Interface) })
		j.need(api.ErrTwice, func() bool { return !faces[i.Interface] })
		j.atMost(len(i.Methods), 16)
		j.each(len(i.Methods), func(m int) { j.need(api.ErrRange, func() bool { return between(0, i.Methods[m], 15) }) })
		faces[i.Interface] = true
	})
}

func (j *judge) method(m api.Method) {
	last := len(j.p.Classes) - 1
	if m.Static {
		last = 0
	}
	j.need(api.ErrRange, func() bool { return between(0, m.Class, last) })
	j.atMost(len(m.Params), 6)
	j.types(m.Params)
	j.need(api.ErrType, func() bool { return m.Result == api.Type{} || j.usable(m.Result) })
	j.need(api.ErrForm, func() bool {
		if m.Static {
			return !m.Abstract
		}
		return m.Abstract == j.p.Classes[m.Class].Interface
	})
	if m.Abstract {
		j.need(api.ErrForm, func() bool { return m.Locals == 0 && m.Stack == 0 && len(m.Code) == 0 && len(m.Handlers) == 0 })
		return
	}
	arguments := len(m.Params)
	if !m.Static {
		arguments++
	}
	j.need(api.ErrRange, func() bool { return between(arguments, m.Locals, 16) })
	j.need(api.ErrRange, func() bool { return between(0, m.Stack, 16) })
	j.need(api.ErrForm, func() bool { return len(m.Code) > 0 })
	j.atMost(len(m.Code), 256)
	j.atMost(len(m.Handlers), 8)
	j.each(len(m.Code), func(k int) {
		if e := code.Check(m.Code[k]); e != api.OK {
			j.e = e
			return
		}
		j.need(api.ErrRange, func() bool { return j.exists(m.Code[k], len(m.Code)) })
	})
	j.each(len(m.Handlers), func(k int) {
		h := m.Handlers[k]
		j.need(api.ErrRange, func() bool { return between(0, h.From, h.To-1) && h.To <= len(m.Code) })
		j.need(api.ErrRange, func() bool { return between(0, h.Target, len(m.Code)-1) && between(0, h.Word, 65535) })
	})
}

// exists tells whether everything exists that an instruction names, which is one of a method with a number of them.
func (j *judge) exists(i api.Instr, instructions int) bool {
	switch i.Op {
	case 21, 22, 23, 24, 25, 26, 27, 28, 29, 30, 31, 32: // jumps
		return between(0, i.A, instructions-1)
	case 33, 42, 43, 47, 48, 51, 52: // those with a class
		return j.reachable(api.Ref{Package: i.A, Class: i.B})
	case 44, 45: // those with a static field
		return between(0, i.A, len(j.p.Statics)-1)
	case 46: // call
		if i.A == 0 {
			return between(0, i.B, len(j.p.Methods)-1)
		}
		return between(1, i.A, len(j.p.Imports)) && between(0, i.B, 63)
	}
	return true
}

func (j *judge) applet(a api.Applet, before map[string]bool) {
	j.aid(a.AID)
	j.need(api.ErrTwice, func() bool { return !before[string(a.AID)] })
	j.need(api.ErrRange, func() bool { return between(0, a.Class, len(j.p.Classes)-1) })
	j.need(api.ErrRange, func() bool { return between(0, a.Install, len(j.p.Methods)-1) })
	j.need(api.ErrForm, func() bool { return !j.p.Classes[a.Class].Interface })
	j.need(api.ErrForm, func() bool { return len(j.p.Classes[a.Class].Virtuals) >= 4 })
	j.need(api.ErrType, func() bool {
		m := j.p.Methods[a.Install]
		return m.Static && slices.Equal(m.Params, []api.Type{{Kind: 2}}) && m.Result == api.Type{Kind: 5, Class: api.Ref{Package: 255}}
	})
	before[string(a.AID)] = true
}

// encoded are the bytes of a package that is well formed, or that only has too many of them.
func encoded(p api.Package) []byte {
	b := append([]byte("SC1"), byte(len(p.AID)))
	b = append(b, p.AID...)
	b = append(b, byte(p.Major), byte(p.Minor), byte(len(p.Imports)))
	for _, i := range p.Imports {
		b = append(append(b, byte(len(i.AID))), i.AID...)
		b = append(b, byte(i.Major), byte(i.Minor))
	}
	b = append(b, byte(len(p.Classes)))
	for _, c := range p.Classes {
		first := byte(0)
		if c.Interface {
			first = 1
		}
		b = append(b, first, byte(c.Super.Package), byte(c.Super.Class), byte(len(c.Extends)))
		for _, r := range c.Extends {
			b = append(b, byte(r.Package), byte(r.Class))
		}
		b = append(b, encodedTypes(c.Fields)...)
		b = append(append(b, byte(len(c.Virtuals))), encodedNumbers(c.Virtuals)...)
		b = append(b, byte(len(c.Impls)))
		for _, i := range c.Impls {
			b = append(b, byte(i.Interface.Package), byte(i.Interface.Class), byte(len(i.Methods)))
			b = append(b, encodedNumbers(i.Methods)...)
		}
	}
	b = append(b, byte(len(p.Methods)))
	for _, m := range p.Methods {
		b = append(b, encodedMethod(m)...)
	}
	b = append(b, encodedTypes(p.Statics)...)
	b = append(b, byte(len(p.Applets)))
	for _, a := range p.Applets {
		b = append(append(b, byte(len(a.AID))), a.AID...)
		b = append(b, byte(a.Class), byte(a.Install))
	}
	return b
}

func encodedMethod(m api.Method) []byte {
	first := 0
	if m.Static {
		first++
	}
	if m.Abstract {
		first += 2
	}
	b := append([]byte{byte(first), byte(m.Class)}, encodedTypes(m.Params)...)
	b = append(b, encodedTypes([]api.Type{m.Result})[1:]...)
	body, _ := code.Encode(m.Code)
	b = append(b, byte(m.Locals), byte(m.Stack), byte(len(body)/256), byte(len(body)%256))
	b = append(append(b, body...), byte(len(m.Handlers)))
	for _, h := range m.Handlers {
		for _, n := range []int{h.From, h.To, h.Target, h.Word} {
			b = append(b, byte(n/256), byte(n%256))
		}
	}
	return b
}

// encodedNumbers returns the bytes of numbers, of which -1 becomes FF.
func encodedNumbers(l []int) []byte {
	var b []byte
	for _, n := range l {
		b = append(b, byte((n+256)%256))
	}
	return b
}

// encodedTypes returns the bytes of a list of types.
func encodedTypes(l []api.Type) []byte {
	b := []byte{byte(len(l))}
	for _, t := range l {
		b = append(b, byte(t.Kind))
		if t.Kind == 5 {
			b = append(b, byte(t.Class.Package), byte(t.Class.Class))
		}
	}
	return b
}

// scan reads a package. After an error, it reads zeros only.
type scan struct {
	b []byte
	e api.Errno
}

func (s *scan) fail(e api.Errno) {
	if s.e == api.OK {
		s.e = e
	}
	s.b = nil
}

func (s *scan) bytes(n int) []byte {
	if len(s.b) < n || s.e != api.OK {
		s.fail(api.ErrShort)
		return nil
	}
	b := s.b[:n]
	s.b = s.b[n:]
	return slices.Clone(b)
}

func (s *scan) one() int {
	if b := s.bytes(1); len(b) == 1 {
		return int(b[0])
	}
	return 0
}

func (s *scan) upTo(most int) int {
	n := s.one()
	if n > most {
		s.fail(api.ErrForm)
		return 0
	}
	return n
}

func (s *scan) two() int { return 256*s.one() + s.one() }

func (s *scan) count(f func()) {
	for n := s.one(); n > 0 && s.e == api.OK; n-- {
		f()
	}
}

func (s *scan) reference() api.Ref { return api.Ref{Package: s.one(), Class: s.one()} }

func (s *scan) kind() api.Type {
	t := api.Type{Kind: s.upTo(5)}
	if t.Kind == 5 {
		t.Class = s.reference()
	}
	return t
}

func (s *scan) kinds() []api.Type {
	var l []api.Type
	s.count(func() { l = append(l, s.kind()) })
	return l
}

// decoded is what Decode has to return.
func decoded(b []byte) (api.Package, api.Errno) {
	if len(b) > 2048 {
		return api.Package{}, api.ErrLong
	}
	s := &scan{b: b}
	for _, c := range []int{0x53, 0x43, 0x31} {
		if s.one() != c {
			s.fail(api.ErrForm)
		}
	}
	var p api.Package
	p.AID = s.bytes(s.one())
	p.Major, p.Minor = s.one(), s.one()
	s.count(func() {
		p.Imports = append(p.Imports, api.Import{AID: s.bytes(s.one()), Major: s.one(), Minor: s.one()})
	})
	s.count(func() { p.Classes = append(p.Classes, s.class()) })
	s.count(func() { p.Methods = append(p.Methods, s.method()) })
	p.Statics = s.kinds()
	s.count(func() {
		p.Applets = append(p.Applets, api.Applet{AID: s.bytes(s.one()), Class: s.one(), Install: s.one()})
	})
	if len(s.b) > 0 {
		s.fail(api.ErrForm)
	}
	if s.e == api.OK {
		s.e = checked(p)
	}
	if s.e != api.OK {
		return api.Package{}, s.e
	}
	return p, api.OK
}

func (s *scan) class() api.Class {
	c := api.Class{Interface: s.upTo(1) == 1}
	c.Super = s.reference()
	s.count(func() { c.Extends = append(c.Extends, s.reference()) })
	c.Fields = s.kinds()
	s.count(func() {
		n := s.one()
		if n == 255 {
			n = -1
		}
		c.Virtuals = append(c.Virtuals, n)
	})
	s.count(func() {
		i := api.Impl{Interface: s.reference()}
		s.count(func() { i.Methods = append(i.Methods, s.one()) })
		c.Impls = append(c.Impls, i)
	})
	return c
}

func (s *scan) method() api.Method {
	first := s.upTo(3)
	m := api.Method{Static: first%2 == 1, Abstract: first >= 2, Class: s.one()}
	m.Params = s.kinds()
	m.Result = s.kind()
	m.Locals, m.Stack = s.one(), s.one()
	var e api.Errno
	if m.Code, e = code.Decode(s.bytes(s.two())); e != api.OK {
		s.fail(e)
	}
	s.count(func() {
		m.Handlers = append(m.Handlers, api.Handler{From: s.two(), To: s.two(), Target: s.two(), Word: s.two()})
	})
	return m
}
