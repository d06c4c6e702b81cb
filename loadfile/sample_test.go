package loadfile_test

import (
	"encoding/hex"
	"math/rand/v2"
	"reflect"
	"slices"
	"strings"
	"testing"

	"smartcard/api"
	"smartcard/code"
)

func ref(pack, class int) api.Ref { return api.Ref{Package: pack, Class: class} }

func object() api.Ref { return ref(api.System, api.ClassObject) }

func shareable() api.Ref { return ref(api.System, api.ClassShareable) }

func kind(n int) api.Type { return api.Type{Kind: n} }

func classType(r api.Ref) api.Type { return api.Type{Kind: api.TypeClass, Class: r} }

// lines returns the instructions with the given lines, which are separated by semicolons.
func lines(s string) []api.Instr {
	l, e := code.Parse(strings.ReplaceAll(s, "; ", "\n") + "\n")
	if e != api.OK {
		panic(s)
	}
	return l
}

var (
	number = kind(api.TypeInt)
	bytes  = kind(api.TypeBytes)
	ints   = kind(api.TypeInts)
	refs   = kind(api.TypeRefs)
	void   = kind(api.TypeVoid)
)

// empty is the package of the first example.
func empty() api.Package { return api.Package{AID: []byte{1, 2, 3, 4, 5}, Major: 1} }

// sample is a package that has a bit of everything.
func sample() api.Package {
	return api.Package{
		AID: []byte{0xa0, 0, 0, 0, 2, 7}, Major: 1, Minor: 254,
		Imports: []api.Import{
			{AID: []byte{0xa0, 0, 0, 0, 3}, Major: 0, Minor: 255},
			{AID: []byte{0xa0, 0, 0, 0, 2, 7, 7, 8, 9, 10, 11, 12, 13, 14, 15, 16}, Major: 255, Minor: 3},
		},
		Classes: []api.Class{
			{Super: object(), Interface: true, Extends: []api.Ref{shareable()}, Virtuals: []int{0}},
			{Super: object(), Interface: true, Extends: []api.Ref{ref(0, 0), ref(1, 31)}},
			{Super: object(), Fields: []api.Type{number, classType(ref(0, 1))}, Virtuals: []int{1, 2, 3, 4}, Impls: []api.Impl{{Interface: ref(0, 0), Methods: []int{0}}, {Interface: ref(2, 9), Methods: []int{15, 3, 3}}}},
			{Super: ref(0, 2), Fields: []api.Type{bytes, refs}, Virtuals: []int{-1, 5, -1, -1}},
			{Super: ref(2, 4), Impls: []api.Impl{{Interface: shareable()}}},
		},
		Methods: []api.Method{
			{Abstract: true, Class: 0, Params: []api.Type{number}, Result: void},
			{Class: 2, Params: []api.Type{number}, Result: void, Locals: 3, Stack: 2, Code: lines("load 1; ifzero 5; push -2; throw; goto 0; return"), Handlers: []api.Handler{{From: 0, To: 6, Target: 5, Word: 0}, {From: 2, To: 3, Target: 0, Word: 0x6f12}}},
			{Class: 2, Result: number, Locals: 1, Stack: 1, Code: lines("push 1; return")},
			{Class: 2, Result: void, Locals: 16, Stack: 0, Code: lines("return")},
			{Class: 2, Params: []api.Type{number, number}, Result: classType(object()), Locals: 3, Stack: 16, Code: lines("null; return")},
			{Class: 3, Result: number, Locals: 1, Stack: 2, Code: lines("load 0; getfield 0.3 3; length; return")},
			{Static: true, Params: []api.Type{bytes}, Result: classType(object()), Locals: 1, Stack: 2, Code: lines("new 0.2; return")},
			{Static: true, Params: []api.Type{ints, refs, classType(ref(1, 0)), bytes, number, number}, Result: refs, Locals: 6, Stack: 16, Code: lines("getstatic 2; putstatic 0; call 0.7; call 2.63; virtual 0.2 1; invoke 1.31 15; cast system.1; is 0.4; putfield 2.0 15; native 14; new 1.5; inc 5 -1; array refs; return")},
		},
		Statics: []api.Type{number, ints, classType(ref(0, 2))},
		Applets: []api.Applet{
			{AID: []byte{0xa0, 0, 0, 0, 2, 7}, Class: 2, Install: 6},
			{AID: []byte{0xa0, 0, 0, 0, 2, 8}, Class: 3, Install: 6},
		},
	}
}

// sampleBytes are the bytes of the sample, by hand.
func sampleBytes() []byte {
	b, err := hex.DecodeString(strings.Join(strings.Fields(`
		534331 06a00000000207 01fe
		02
			05a000000003 00ff
			10a00000000207 0708090a0b0c0d0e0f10 ff03
		05
			01 ff00 01ff01 00 0100 00
			01 ff00 020000011f 00 00 00
			00 ff00 00 0201050001 0401020304 02000001000209030f0303
			00 0002 00 020204 04ff05ffff 00
			00 0204 00 00 00 01ff0100
		08
			02 00 0101 00 00 00 0000 00
			00 02 0101 00 03 02 000d 0301 1605 01fffffffe 32 1500 31 02 0000000600050000 0002000300006f12
			00 02 00 01 01 01 0006 0100000001 31 00
			00 02 00 00 10 00 0001 31 00
			00 02 020101 05ff00 03 10 0002 02 31 00
			00 03 00 01 01 02 0008 0300 2a000303 23 31 00
			01 00 0102 05ff00 01 02 0004 210002 31 00
			01 00 0603040501000201 01 04 06 10 0027 2c02 2d00 2e0007 2e023f 2f000201 30011f0f 33ff01 340004 2b02000f 350e 210105 0505ff 2204 31 00
		03 01 03 050002
		02
			06a00000000207 02 06
			06a00000000208 03 06`), ""))
	if err != nil {
		panic(err)
	}
	return b
}

// deepCopy returns a copy of a value that shares no memory with it; the slices of the copy have more capacity than elements, and what lies between is not zero.
func deepCopy(v reflect.Value) reflect.Value {
	c := reflect.New(v.Type()).Elem()
	switch v.Kind() {
	case reflect.Struct:
		for i := range v.NumField() {
			c.Field(i).Set(deepCopy(v.Field(i)))
		}
	case reflect.Slice:
		c = reflect.MakeSlice(v.Type(), v.Len()+1, v.Len()+1)
		for i := range v.Len() {
			c.Index(i).Set(deepCopy(v.Index(i)))
		}
		if v.Len() > 0 {
			c.Index(v.Len()).Set(deepCopy(v.Index(0)))
		}
		c = c.Slice(0, v.Len())
	default:
		c.Set(v)
	}
	return c
}

func copied(p api.Package) api.Package {
	return deepCopy(reflect.ValueOf(p)).Interface().(api.Package)
}

// sparesKept tells whether the slices of a copy by deepCopy have still after their last element what was there.
func sparesKept(v reflect.Value) bool {
	switch v.Kind() {
	case reflect.Struct:
		for i := range v.NumField() {
			if !sparesKept(v.Field(i)) {
				return false
			}
		}
	case reflect.Slice:
		for i := range v.Len() {
			if !sparesKept(v.Index(i)) {
				return false
			}
		}
		if v.Len() > 0 && !reflect.DeepEqual(v.Slice(0, v.Len()+1).Index(v.Len()).Interface(), v.Index(0).Interface()) {
			return false
		}
	}
	return true
}

// normal returns a copy of a package in which empty lists are nil.
func normal(p api.Package) api.Package {
	c := copied(p)
	clearEmpty(reflect.ValueOf(&c).Elem())
	return c
}

func clearEmpty(v reflect.Value) {
	switch v.Kind() {
	case reflect.Struct:
		for i := range v.NumField() {
			clearEmpty(v.Field(i))
		}
	case reflect.Slice:
		if v.Len() == 0 {
			v.SetZero()
		}
		for i := range v.Len() {
			clearEmpty(v.Index(i))
		}
	}
}

func equal(a, b api.Package) bool { return reflect.DeepEqual(normal(a), normal(b)) }

// random returns a random package that is well formed, unless it has too many bytes.
func random(r *rand.Rand) api.Package {
	p := api.Package{AID: randomAID(r, 1), Major: r.IntN(256), Minor: r.IntN(256)}
	for n := range r.IntN(5) {
		p.Imports = append(p.Imports, api.Import{AID: randomAID(r, 2+n), Major: r.IntN(256), Minor: r.IntN(256)})
	}
	p.Classes = make([]api.Class, r.IntN(8))
	for n := range p.Classes {
		p.Classes[n] = randomClass(r, p, n)
	}
	for range r.IntN(4) {
		p.Statics = append(p.Statics, randomType(r, p))
	}
	p.Methods = make([]api.Method, r.IntN(8))
	for n := range p.Methods {
		p.Methods[n] = randomMethod(r, p)
	}
	for n, m := range p.Methods { // each method is a virtual one of its class, or not
		if c := m.Class; !m.Static && r.IntN(2) == 0 {
			p.Classes[c].Virtuals = append(p.Classes[c].Virtuals, n)
		}
	}
	for n, c := range p.Classes {
		if !c.Interface && len(p.Methods) > 0 && r.IntN(2) == 0 {
			for len(p.Classes[n].Virtuals) < 4 {
				p.Classes[n].Virtuals = append([]int{-1}, p.Classes[n].Virtuals...)
			}
			p.Methods[0] = api.Method{Static: true, Params: []api.Type{bytes}, Result: classType(object()), Locals: 1, Code: lines("return")}
			p.Applets = append(p.Applets, api.Applet{AID: randomAID(r, 10+n), Class: n})
		}
	}
	for n := range p.Classes {
		p.Classes[n].Virtuals = slices.DeleteFunc(p.Classes[n].Virtuals, func(m int) bool { return m >= 0 && p.Methods[m].Static })
	}
	p.Applets = slices.DeleteFunc(p.Applets, func(a api.Applet) bool { return len(p.Classes[a.Class].Virtuals) < 4 })
	return p
}

// randomAID returns an identifier whose first byte is first.
func randomAID(r *rand.Rand, first int) []byte {
	b := make([]byte, 5+r.IntN(12))
	for i := range b {
		b[i] = byte(r.IntN(256))
	}
	b[0] = byte(first)
	return b
}

// randomRef returns a reference in range to one of the first classes of a package, or to another package's class.
func randomRef(r *rand.Rand, p api.Package, classes int) api.Ref {
	switch n := r.IntN(3); {
	case n == 0 && classes > 0:
		return ref(0, r.IntN(classes))
	case n == 1 && len(p.Imports) > 0:
		return ref(1+r.IntN(len(p.Imports)), r.IntN(32))
	}
	return ref(api.System, r.IntN(2))
}

func randomType(r *rand.Rand, p api.Package) api.Type {
	if n := 1 + r.IntN(5); n < api.TypeClass {
		return kind(n)
	}
	return classType(randomRef(r, p, len(p.Classes)))
}

func randomTypes(r *rand.Rand, p api.Package, most int) []api.Type {
	l := make([]api.Type, r.IntN(most+1))
	for i := range l {
		l[i] = randomType(r, p)
	}
	return l
}

func randomClass(r *rand.Rand, p api.Package, n int) api.Class {
	if r.IntN(3) == 0 {
		c := api.Class{Super: object(), Interface: true}
		for range r.IntN(4) {
			c.Extends = append(c.Extends, randomRef(r, p, n))
		}
		return c
	}
	c := api.Class{Super: randomRef(r, p, n), Fields: randomTypes(r, p, 4)}
	for range r.IntN(3) {
		i := api.Impl{Interface: randomRef(r, p, len(p.Classes))}
		if slices.ContainsFunc(c.Impls, func(x api.Impl) bool { return x.Interface == i.Interface }) {
			continue
		}
		for range r.IntN(4) {
			i.Methods = append(i.Methods, r.IntN(16))
		}
		c.Impls = append(c.Impls, i)
	}
	return c
}

func randomMethod(r *rand.Rand, p api.Package) api.Method {
	m := api.Method{Params: randomTypes(r, p, 6), Static: len(p.Classes) == 0 || r.IntN(2) == 0}
	if r.IntN(3) > 0 {
		m.Result = randomType(r, p)
	}
	arguments := len(m.Params)
	if !m.Static {
		arguments++
		m.Class = r.IntN(len(p.Classes))
		if m.Abstract = p.Classes[m.Class].Interface; m.Abstract {
			return m
		}
	}
	m.Locals, m.Stack = arguments+r.IntN(17-arguments), r.IntN(17)
	m.Code = make([]api.Instr, 1+r.IntN(20))
	for n := range m.Code {
		m.Code[n] = randomInstr(r, p, len(m.Code))
	}
	for range r.IntN(3) {
		from := r.IntN(len(m.Code))
		m.Handlers = append(m.Handlers, api.Handler{From: from, To: from + 1 + r.IntN(len(m.Code)-from), Target: r.IntN(len(m.Code)), Word: r.IntN(65536)})
	}
	return m
}

// randomInstr returns an instruction for a method with a number of them.
func randomInstr(r *rand.Rand, p api.Package, instructions int) api.Instr {
	i := api.Instr{Op: r.IntN(api.InsCount)}
	x := randomRef(r, p, len(p.Classes))
	switch i.Op {
	case api.InsPush:
		i.A = int(int32(r.Uint32()))
	case api.InsLoad, api.InsStore:
		i.A = r.IntN(16)
	case api.InsInc:
		i.A, i.B = r.IntN(16), r.IntN(256)-128
	case api.InsNew, api.InsCast, api.InsIs:
		i.A, i.B = x.Package, x.Class
	case api.InsGetField, api.InsPutField, api.InsVirtual, api.InsInvoke:
		i.A, i.B, i.C = x.Package, x.Class, r.IntN(16)
	case api.InsArray:
		i.A = 2 + r.IntN(3)
	case api.InsNative:
		i.A = r.IntN(15)
	case api.InsGetStatic, api.InsPutStatic:
		if len(p.Statics) == 0 {
			return api.Instr{}
		}
		i.A = r.IntN(len(p.Statics))
	case api.InsCall:
		if i.A = r.IntN(len(p.Imports) + 1); i.A > 0 {
			i.B = r.IntN(64)
		} else {
			i.B = r.IntN(max(len(p.Methods), 1)) // there is at least the method that is made
		}
	}
	if i.Op >= api.InsGoto && i.Op <= api.InsIfOther {
		i.A = r.IntN(instructions)
	}
	return i
}

func TestSamples(t *testing.T) {
	p := sample()
	if c := copied(p); !reflect.DeepEqual(p, sample()) || !equal(p, c) || !sparesKept(reflect.ValueOf(c)) {
		t.Error("the helpers of the tests are wrong")
	}
}
