package loadfile_test

import (
	"math"
	"math/rand/v2"
	"reflect"
	"slices"
	"testing"

	"smartcard/api"
	"smartcard/loadfile"
)

// P28.1

func expectCheck(t *testing.T, what string, p api.Package, want api.Errno) {
	t.Helper()
	if e := loadfile.Check(p); e != want {
		t.Errorf("%s: Check returns %d and not %d", what, e, want)
	}
	if e := checked(p); e != want {
		t.Errorf("%s: the model of the tests returns %d and not %d", what, e, want)
	}
}

func TestCheckOfWellFormedPackages(t *testing.T) {
	expectCheck(t, "empty", empty(), api.OK)
	expectCheck(t, "sample", sample(), api.OK)
	p := empty()
	p.AID, p.Major, p.Minor = make([]byte, 16), 0, 255
	expectCheck(t, "greatest name", p, api.OK)
	p.Methods = []api.Method{{Static: true, Code: lines("return")}}
	expectCheck(t, "a static method without classes", p, api.OK)
}

// greatest is a package with as many parts as a package can have.
func greatest() api.Package {
	p := empty()
	for n := range 4 {
		p.Imports = append(p.Imports, api.Import{AID: []byte{2, 0, 0, 0, byte(n)}})
	}
	p.Classes = slices.Repeat([]api.Class{{Super: object()}}, 32)
	p.Classes[9].Virtuals = []int{-1, -1, -1, -1}
	for n := range 32 {
		p.Classes[9].Impls = append(p.Classes[9].Impls, api.Impl{Interface: ref(4, n)})
	}
	install := api.Method{Static: true, Params: []api.Type{bytes}, Result: classType(object()), Locals: 1, Code: lines("return")}
	p.Methods = slices.Repeat([]api.Method{install}, 64)
	p.Statics = slices.Repeat([]api.Type{refs}, 16)
	for n := range 32 {
		p.Applets = append(p.Applets, api.Applet{AID: []byte{3, 0, 0, 0, byte(n)}, Class: 9, Install: 63})
	}
	return p
}

func TestCheckOfTheLimits(t *testing.T) {
	expectCheck(t, "the greatest numbers", greatest(), api.OK)
	for _, c := range []change{
		{"5 imports", api.ErrLong, func(p *api.Package) { p.Imports = append(p.Imports, api.Import{AID: make([]byte, 5)}) }},
		{"33 classes", api.ErrLong, func(p *api.Package) { p.Classes = append(p.Classes, p.Classes[0]) }},
		{"65 methods", api.ErrLong, func(p *api.Package) { p.Methods = append(p.Methods, p.Methods[0]) }},
		{"17 static fields", api.ErrLong, func(p *api.Package) { p.Statics = append(p.Statics, number) }},
		{"33 applets", api.ErrLong, func(p *api.Package) {
			p.Applets = append(p.Applets, api.Applet{AID: make([]byte, 5), Class: 9})
		}},
		{"33 Impls", api.ErrLong, func(p *api.Package) {
			p.Classes[9].Impls = append(p.Classes[9].Impls, api.Impl{Interface: ref(3, 0)})
		}},
		{"4 imports and not more", api.OK, func(p *api.Package) { p.Classes[9].Impls[0].Interface = ref(1, 0) }},
		{"no fifth import", api.ErrRange, func(p *api.Package) { p.Classes[9].Impls[0].Interface = ref(5, 0) }},
	} {
		p := greatest()
		c.do(&p)
		expectCheck(t, c.what, p, c.e)
	}
}

// change is a change of the sample, and the error of Check then.
type change struct {
	what string
	e    api.Errno
	do   func(p *api.Package)
}

// headChanges are changes of what comes before the classes, in the order in which the document names the errors; so are the following lists.
func headChanges() []change {
	return []change{
		{"no AID", api.ErrArg, func(p *api.Package) { p.AID = nil }},
		{"short AID", api.ErrArg, func(p *api.Package) { p.AID = p.AID[:4] }},
		{"long AID", api.ErrArg, func(p *api.Package) { p.AID = make([]byte, 17) }},
		{"Major", api.ErrRange, func(p *api.Package) { p.Major = 256 }},
		{"Major -1", api.ErrRange, func(p *api.Package) { p.Major = -1 }},
		{"Minor", api.ErrRange, func(p *api.Package) { p.Minor = 1 << 32 }},
		{"Minor -1", api.ErrRange, func(p *api.Package) { p.Minor = math.MinInt }},
		{"imports", api.ErrLong, func(p *api.Package) { p.Imports = make([]api.Import, 5) }},
		{"classes", api.ErrLong, func(p *api.Package) { p.Classes = make([]api.Class, 33) }},
		{"methods", api.ErrLong, func(p *api.Package) { p.Methods = make([]api.Method, 65) }},
		{"static fields", api.ErrLong, func(p *api.Package) { p.Statics = make([]api.Type, 17) }},
		{"applets", api.ErrLong, func(p *api.Package) { p.Applets = make([]api.Applet, 33) }},
		{"AID of an import", api.ErrArg, func(p *api.Package) { p.Imports[0].AID = p.Imports[0].AID[:4] }},
		{"long AID of an import", api.ErrArg, func(p *api.Package) { p.Imports[0].AID = make([]byte, 17) }},
		{"Major of an import", api.ErrRange, func(p *api.Package) { p.Imports[0].Major = 256 }},
		{"Minor of an import", api.ErrRange, func(p *api.Package) { p.Imports[0].Minor = -1 }},
		{"import of itself", api.ErrTwice, func(p *api.Package) { p.Imports[0].AID = slices.Clone(p.AID) }},
		{"AID of import 2", api.ErrArg, func(p *api.Package) { p.Imports[1].AID = nil }},
		{"Major of import 2", api.ErrRange, func(p *api.Package) { p.Imports[1].Major = -1 }},
		{"the same import again", api.ErrTwice, func(p *api.Package) { p.Imports[1].AID = slices.Clone(p.Imports[0].AID) }},
	}
}

func superChanges() []change {
	return []change{
		{"Super too great", api.ErrRange, func(p *api.Package) { p.Classes[2].Super = ref(0, 5) }},
		{"Super negative", api.ErrRange, func(p *api.Package) { p.Classes[2].Super = ref(0, -1) }},
		{"Super of no import", api.ErrRange, func(p *api.Package) { p.Classes[2].Super = ref(3, 0) }},
		{"Super of a negative package", api.ErrRange, func(p *api.Package) { p.Classes[2].Super = ref(-1, 0) }},
		{"Super of an import too great", api.ErrRange, func(p *api.Package) { p.Classes[2].Super = ref(2, 32) }},
		{"Super of an import negative", api.ErrRange, func(p *api.Package) { p.Classes[2].Super = ref(2, -1) }},
		{"Super of the system too great", api.ErrRange, func(p *api.Package) { p.Classes[2].Super = ref(255, 2) }},
		{"Super of 254", api.ErrRange, func(p *api.Package) { p.Classes[2].Super = ref(254, 0) }},
		{"Super of 256", api.ErrRange, func(p *api.Package) { p.Classes[2].Super = ref(256, 0) }},
		{"Super itself", api.ErrOrder, func(p *api.Package) { p.Classes[2].Super = ref(0, 2) }},
		{"Super later", api.ErrOrder, func(p *api.Package) { p.Classes[2].Super = ref(0, 4) }},
		{"Super earlier", api.OK, func(p *api.Package) { p.Classes[2].Super = ref(0, 1) }},
		{"Super Shareable", api.OK, func(p *api.Package) { p.Classes[2].Super = shareable() }},
		{"Super of an import", api.OK, func(p *api.Package) { p.Classes[2].Super = ref(1, 31) }},
		{"Super of an interface of the package", api.ErrForm, func(p *api.Package) { p.Classes[1].Super = ref(0, 0) }},
		{"Super of an interface Shareable", api.ErrForm, func(p *api.Package) { p.Classes[1].Super = shareable() }},
		{"Super of an interface itself", api.ErrOrder, func(p *api.Package) { p.Classes[1].Super = ref(0, 1) }},
		{"Super of an interface of an import", api.ErrForm, func(p *api.Package) { p.Classes[1].Super = ref(1, 0) }},
	}
}

func classChanges() []change {
	return []change{
		{"fields of an interface", api.ErrForm, func(p *api.Package) { p.Classes[1].Fields = []api.Type{number} }},
		{"Impls of an interface", api.ErrForm, func(p *api.Package) { p.Classes[1].Impls = make([]api.Impl, 1) }},
		{"Extends of a class", api.ErrForm, func(p *api.Package) { p.Classes[2].Extends = []api.Ref{shareable()} }},
		{"32 Extends", api.OK, func(p *api.Package) { p.Classes[1].Extends = slices.Repeat([]api.Ref{ref(0, 0)}, 32) }},
		{"33 Extends", api.ErrLong, func(p *api.Package) { p.Classes[1].Extends = slices.Repeat([]api.Ref{ref(0, 9)}, 33) }},
		{"16 Fields", api.OK, func(p *api.Package) { p.Classes[2].Fields = slices.Repeat([]api.Type{number}, 16) }},
		{"17 Fields", api.ErrLong, func(p *api.Package) { p.Classes[2].Fields = make([]api.Type, 17) }},
		{"16 Virtuals", api.OK, func(p *api.Package) { p.Classes[3].Virtuals = slices.Repeat([]int{-1}, 16) }},
		{"17 Virtuals", api.ErrLong, func(p *api.Package) { p.Classes[3].Virtuals = slices.Repeat([]int{-2}, 17) }},
		{"33 Impls", api.ErrLong, func(p *api.Package) { p.Classes[2].Impls = make([]api.Impl, 33) }},
		{"Extends too great", api.ErrRange, func(p *api.Package) { p.Classes[1].Extends[1] = ref(0, 5) }},
		{"Extends of no import", api.ErrRange, func(p *api.Package) { p.Classes[1].Extends[0] = ref(3, 0) }},
		{"Extends itself", api.ErrOrder, func(p *api.Package) { p.Classes[1].Extends[0] = ref(0, 1) }},
		{"Extends later", api.ErrOrder, func(p *api.Package) { p.Classes[1].Extends[1] = ref(0, 4) }},
		{"Extends twice", api.OK, func(p *api.Package) { p.Classes[1].Extends[1] = ref(0, 0) }},
		{"field void", api.ErrType, func(p *api.Package) { p.Classes[2].Fields[1] = void }},
		{"field null", api.ErrType, func(p *api.Package) { p.Classes[2].Fields[1] = kind(api.TypeNull) }},
		{"field -1", api.ErrType, func(p *api.Package) { p.Classes[2].Fields[0] = kind(-1) }},
		{"field with a class too great", api.ErrType, func(p *api.Package) { p.Classes[2].Fields[0] = classType(ref(0, 5)) }},
		{"field with a later class", api.OK, func(p *api.Package) { p.Classes[2].Fields[0] = classType(ref(0, 4)) }},
		{"integer field with a class", api.ErrType, func(p *api.Package) {
			p.Classes[2].Fields[0] = api.Type{Kind: api.TypeInt, Class: ref(0, 1)}
		}},
		{"integer field with a package", api.ErrType, func(p *api.Package) {
			p.Classes[2].Fields[0] = api.Type{Kind: api.TypeInt, Class: ref(1, 0)}
		}},
		{"virtual too great", api.ErrRange, func(p *api.Package) { p.Classes[2].Virtuals[3] = 8 }},
		{"virtual -2", api.ErrRange, func(p *api.Package) { p.Classes[2].Virtuals[3] = -2 }},
		{"virtual 255", api.ErrRange, func(p *api.Package) { p.Classes[2].Virtuals[3] = 255 }},
		{"virtual static", api.ErrForm, func(p *api.Package) { p.Classes[2].Virtuals[3] = 6 }},
		{"virtual static of class 0", api.ErrForm, func(p *api.Package) { p.Classes[0].Virtuals[0] = 6 }},
		{"virtual of another class", api.ErrForm, func(p *api.Package) { p.Classes[2].Virtuals[3] = 5 }},
		{"virtual twice", api.ErrTwice, func(p *api.Package) { p.Classes[2].Virtuals[3] = 1 }},
		{"no virtual of the superclass", api.OK, func(p *api.Package) { p.Classes[2].Virtuals[3] = -1 }},
		{"inherited by an interface", api.ErrForm, func(p *api.Package) { p.Classes[0].Virtuals[0] = -1 }},
		{"Interface too great", api.ErrRange, func(p *api.Package) { p.Classes[2].Impls[1].Interface = ref(0, 5) }},
		{"Interface of an import too great", api.ErrRange, func(p *api.Package) { p.Classes[2].Impls[1].Interface = ref(2, 32) }},
		{"Interface twice", api.ErrTwice, func(p *api.Package) { p.Classes[2].Impls[1].Interface = ref(0, 0) }},
		{"Interface itself", api.OK, func(p *api.Package) { p.Classes[2].Impls[1].Interface = ref(0, 2) }},
		{"16 Methods", api.OK, func(p *api.Package) { p.Classes[2].Impls[1].Methods = make([]int, 16) }},
		{"17 Methods", api.ErrLong, func(p *api.Package) { p.Classes[2].Impls[1].Methods = slices.Repeat([]int{-1}, 17) }},
		{"method of an interface too great", api.ErrRange, func(p *api.Package) { p.Classes[2].Impls[1].Methods[2] = 16 }},
		{"method of an interface negative", api.ErrRange, func(p *api.Package) { p.Classes[2].Impls[0].Methods[0] = -1 }},
	}
}

func methodChanges() []change {
	return []change{
		{"Class too great", api.ErrRange, func(p *api.Package) {
			p.Methods = append(p.Methods, api.Method{Class: 5, Locals: 1, Code: lines("return")})
		}},
		{"Class negative", api.ErrRange, func(p *api.Package) { p.Methods[7].Class = -1 }},
		{"Class of a static method", api.ErrRange, func(p *api.Package) { p.Methods[7].Class = 1 }},
		{"6 Params", api.OK, func(p *api.Package) { p.Methods[7].Params = slices.Repeat([]api.Type{ints}, 6) }},
		{"7 Params", api.ErrLong, func(p *api.Package) { p.Methods[7].Params = make([]api.Type, 7) }},
		{"parameter void", api.ErrType, func(p *api.Package) { p.Methods[7].Params[5] = void }},
		{"parameter none", api.ErrType, func(p *api.Package) { p.Methods[7].Params[5] = kind(api.TypeNone) }},
		{"parameter of no class", api.ErrType, func(p *api.Package) { p.Methods[7].Params[2].Class.Class = 32 }},
		{"result null", api.ErrType, func(p *api.Package) { p.Methods[7].Result = kind(api.TypeNull) }},
		{"result -1", api.ErrType, func(p *api.Package) { p.Methods[7].Result = kind(-1) }},
		{"result of no class", api.ErrType, func(p *api.Package) { p.Methods[7].Result = classType(ref(3, 0)) }},
		{"void with a class", api.ErrType, func(p *api.Package) { p.Methods[7].Result = api.Type{Class: ref(0, 1)} }},
		{"result void", api.OK, func(p *api.Package) { p.Methods[7].Result = void }},
		{"static and abstract", api.ErrForm, func(p *api.Package) { p.Methods[7].Abstract = true }},
		{"static and abstract, and nothing else", api.ErrForm, func(p *api.Package) {
			p.Methods[7] = api.Method{Static: true, Abstract: true}
		}},
		{"abstract in a class", api.ErrForm, func(p *api.Package) { p.Methods[5].Abstract = true }},
		{"not abstract in an interface", api.ErrForm, func(p *api.Package) { p.Methods[0].Abstract = false }},
		{"abstract with Locals", api.ErrForm, func(p *api.Package) { p.Methods[0].Locals = 1 }},
		{"abstract with Stack", api.ErrForm, func(p *api.Package) { p.Methods[0].Stack = 1 }},
		{"abstract with Code", api.ErrForm, func(p *api.Package) { p.Methods[0].Code = lines("return") }},
		{"abstract with Handlers", api.ErrForm, func(p *api.Package) { p.Methods[0].Handlers = make([]api.Handler, 1) }},
		{"Locals for the arguments", api.OK, func(p *api.Package) { p.Methods[1].Locals = 2 }},
		{"too few Locals", api.ErrRange, func(p *api.Package) { p.Methods[1].Locals = 1 }},
		{"too few Locals of a static method", api.ErrRange, func(p *api.Package) { p.Methods[7].Locals = 5 }},
		{"too many Locals", api.ErrRange, func(p *api.Package) { p.Methods[7].Locals = 17 }},
		{"negative Stack", api.ErrRange, func(p *api.Package) { p.Methods[7].Stack = -1 }},
		{"too much Stack", api.ErrRange, func(p *api.Package) { p.Methods[7].Stack = 17 }},
		{"no code", api.ErrForm, func(p *api.Package) { p.Methods[7].Code = nil }},
		{"256 instructions", api.OK, func(p *api.Package) { p.Methods[7].Code = make([]api.Instr, 256) }},
		{"257 instructions", api.ErrLong, func(p *api.Package) { p.Methods[7].Code = slices.Repeat([]api.Instr{{Op: -1}}, 257) }},
		{"8 handlers", api.OK, func(p *api.Package) { p.Methods[7].Handlers = slices.Repeat([]api.Handler{{To: 1}}, 8) }},
		{"9 handlers", api.ErrLong, func(p *api.Package) { p.Methods[7].Handlers = make([]api.Handler, 9) }},
	}
}

// withCode replaces the code of a method of the sample by instructions, of which some may name what does not exist.
func withCode(s string) func(p *api.Package) {
	return func(p *api.Package) { p.Methods[7].Code = lines(s) }
}

// with replaces the code of a method of the sample by two instructions, and others, which may be wrong.
func with(i ...api.Instr) func(p *api.Package) {
	return func(p *api.Package) { p.Methods[7].Code = append(lines("pop; nop"), i...) }
}

func instrChanges() []change {
	return []change{
		{"no instruction", api.ErrForm, with(api.Instr{Op: api.InsCount})},
		{"wrong local variable", api.ErrRange, with(api.Instr{Op: api.InsLoad, A: 16})},
		{"unused operand", api.ErrForm, with(api.Instr{Op: api.InsPop, A: 1})},
		{"the first one first", api.ErrForm, with(api.Instr{Op: -1}, api.Instr{Op: api.InsLoad, A: 16})},
		{"the first one first, again", api.ErrRange, with(api.Instr{Op: api.InsLoad, A: 16}, api.Instr{Op: -1})},
		{"what exists, before the next instruction", api.ErrRange, with(api.Instr{Op: api.InsGoto, A: 4}, api.Instr{Op: -1})},
		{"local variable beyond Locals", api.OK, withCode("load 15")},
		{"jumps", api.OK, withCode("goto 2; ifzero 0; ifother 1")},
		{"goto", api.ErrRange, withCode("goto 1")},
		{"conditional jump", api.ErrRange, withCode("nop; ifzero 2")},
		{"last conditional jump", api.ErrRange, withCode("nop; ifother 255")},
		{"class", api.OK, withCode("new 0.4; new 1.31; new 2.0; new system.0; new system.1")},
		{"new", api.ErrRange, withCode("new 0.5")},
		{"new of no import", api.ErrRange, withCode("new 3.0")},
		{"getfield", api.ErrRange, withCode("getfield 0.5 0")},
		{"putfield", api.ErrRange, withCode("putfield 4.0 0")},
		{"virtual", api.ErrRange, withCode("virtual 0.31 0")},
		{"invoke", api.ErrRange, withCode("invoke 3.1 0")},
		{"cast", api.ErrRange, withCode("cast 0.5")},
		{"is", api.ErrRange, withCode("is 3.31")},
		{"static fields that exist", api.OK, withCode("getstatic 2; putstatic 0")},
		{"getstatic", api.ErrRange, withCode("getstatic 3")},
		{"putstatic", api.ErrRange, withCode("putstatic 255")},
		{"calls", api.OK, withCode("call 0.7; call 0.0; call 1.63; call 2.0")},
		{"call", api.ErrRange, withCode("call 0.8")},
		{"call of no import", api.ErrRange, withCode("call 3.0")},
		{"call of the system", api.ErrRange, with(api.Instr{Op: api.InsCall, A: 255})},
	}
}

func withHandler(from, to, target, word int) func(p *api.Package) {
	return func(p *api.Package) {
		p.Methods[1].Handlers[1] = api.Handler{From: from, To: to, Target: target, Word: word}
	}
}

func tailChanges() []change {
	return []change{
		{"handler", api.OK, withHandler(5, 6, 0, 65535)},
		{"handler from -1", api.ErrRange, withHandler(-1, 6, 0, 0)},
		{"empty handler", api.ErrRange, withHandler(3, 3, 0, 0)},
		{"inverse handler", api.ErrRange, withHandler(4, 3, 0, 0)},
		{"handler beyond the end", api.ErrRange, withHandler(3, 7, 0, 0)},
		{"target", api.ErrRange, withHandler(0, 6, 6, 0)},
		{"target -1", api.ErrRange, withHandler(0, 6, -1, 0)},
		{"word", api.ErrRange, withHandler(0, 6, 5, 65536)},
		{"word -1", api.ErrRange, withHandler(0, 6, 5, -1)},
		{"static field void", api.ErrType, func(p *api.Package) { p.Statics[2] = void }},
		{"static field null", api.ErrType, func(p *api.Package) { p.Statics[2] = kind(api.TypeNull) }},
		{"static field of no class", api.ErrType, func(p *api.Package) { p.Statics[2] = classType(ref(0, 9)) }},
		{"AID of an applet", api.ErrArg, func(p *api.Package) { p.Applets[1].AID = p.Applets[1].AID[:4] }},
		{"long AID of an applet", api.ErrArg, func(p *api.Package) { p.Applets[1].AID = make([]byte, 17) }},
		{"AID of an applet twice", api.ErrTwice, func(p *api.Package) { p.Applets[1].AID = slices.Clone(p.Applets[0].AID) }},
		{"class of an applet", api.ErrRange, func(p *api.Package) { p.Applets[1].Class = 5 }},
		{"class of an applet -1", api.ErrRange, func(p *api.Package) { p.Applets[1].Class = -1 }},
		{"method of an applet", api.ErrRange, func(p *api.Package) { p.Applets[1].Install = 8 }},
		{"method of an applet -1", api.ErrRange, func(p *api.Package) { p.Applets[1].Install = -1 }},
		{"interface of an applet", api.ErrForm, func(p *api.Package) { p.Applets[1].Class = 0 }},
		{"interface with many methods", api.ErrForm, func(p *api.Package) {
			p.Methods[3] = api.Method{Abstract: true, Class: 0}
			p.Methods[4], p.Methods[5] = p.Methods[3], p.Methods[3]
			p.Classes[0].Virtuals = []int{0, 3, 4, 5}
			p.Classes[2].Virtuals, p.Classes[3].Virtuals = nil, nil
			p.Applets[0].Class = 0
		}},
		{"too few Virtuals", api.ErrForm, func(p *api.Package) { p.Classes[3].Virtuals = []int{-1, 5, -1} }},
		{"instance method of an applet", api.ErrType, func(p *api.Package) {
			p.Methods = append(p.Methods, api.Method{Class: 2, Params: []api.Type{bytes}, Result: classType(object()), Locals: 2, Code: lines("return")})
			p.Applets[1].Install = 8
		}},
		{"no parameters", api.ErrType, func(p *api.Package) { p.Methods[6].Params = nil }},
		{"wrong parameter", api.ErrType, func(p *api.Package) { p.Methods[6].Params[0] = ints }},
		{"two parameters", api.ErrType, func(p *api.Package) { p.Methods[6].Params, p.Methods[6].Locals = []api.Type{bytes, bytes}, 2 }},
		{"wrong result", api.ErrType, func(p *api.Package) { p.Methods[6].Result = classType(shareable()) }},
		{"result that is a class of the package", api.ErrType, func(p *api.Package) { p.Methods[6].Result = classType(ref(0, 0)) }},
		{"no result", api.ErrType, func(p *api.Package) { p.Methods[6].Result = void }},
		{"too many bytes", api.ErrLong, func(p *api.Package) {
			p.Methods[5].Code = slices.Repeat(lines("push 1"), 256)
			p.Methods[7].Code = p.Methods[5].Code
		}},
	}
}

// allChanges are all changes, by the document's order.
func allChanges() []change {
	return slices.Concat(headChanges(), superChanges(), classChanges(), methodChanges(), instrChanges(), tailChanges())
}

func TestCheckOfChanges(t *testing.T) {
	for _, c := range allChanges() {
		p := sample()
		c.do(&p)
		expectCheck(t, c.what, p, c.e)
	}
}

// do makes a change that may no longer be possible after another one.
func do(p *api.Package, c change) {
	defer func() { _ = recover() }()
	c.do(p)
}

func TestCheckOfTwoChanges(t *testing.T) {
	l := allChanges()
	for _, a := range l {
		for _, b := range l {
			p := copied(sample())
			do(&p, a)
			do(&p, b)
			if e, want := loadfile.Check(p), checked(p); e != want {
				t.Errorf("%s, and %s: Check returns %d and not %d", a.what, b.what, e, want)
			}
		}
	}
}

func TestCheckOfTheOrder(t *testing.T) {
	for _, x := range []struct {
		what string
		e    api.Errno
		do   func(p *api.Package)
	}{
		{"AID before Major", api.ErrArg, func(p *api.Package) { p.AID, p.Major = nil, -1 }},
		{"Minor before the numbers of parts", api.ErrRange, func(p *api.Package) { p.Minor, p.Methods = 256, make([]api.Method, 65) }},
		{"the numbers of parts before the imports", api.ErrLong, func(p *api.Package) { p.Imports[0].AID, p.Applets = nil, make([]api.Applet, 33) }},
		{"an import before the next one", api.ErrTwice, func(p *api.Package) { p.Imports[0].AID, p.Imports[1].AID = p.AID, nil }},
		{"the imports before the classes", api.ErrRange, func(p *api.Package) { p.Imports[1].Minor, p.Classes[0].Super = -1, ref(0, 0) }},
		{"Super before Extends", api.ErrOrder, func(p *api.Package) { p.Classes[2].Super, p.Classes[2].Extends = ref(0, 2), make([]api.Ref, 1) }},
		{"Extends before the lengths", api.ErrForm, func(p *api.Package) {
			p.Classes[2].Extends, p.Classes[2].Fields = make([]api.Ref, 1), make([]api.Type, 17)
		}},
		{"the lengths before the parts", api.ErrLong, func(p *api.Package) {
			p.Classes[1].Extends, p.Classes[1].Virtuals = []api.Ref{ref(9, 9)}, make([]int, 17)
		}},
		{"Extends before Virtuals", api.ErrOrder, func(p *api.Package) {
			p.Classes[1].Extends, p.Classes[1].Virtuals = []api.Ref{ref(0, 1), ref(9, 9)}, []int{99}
		}},
		{"Fields before Virtuals", api.ErrType, func(p *api.Package) { p.Classes[2].Fields[0], p.Classes[2].Virtuals[0] = void, 99 }},
		{"Virtuals before Impls", api.ErrForm, func(p *api.Package) { p.Classes[2].Virtuals[0], p.Classes[2].Impls[1].Interface = 6, ref(0, 0) }},
		{"a virtual before the next one", api.ErrTwice, func(p *api.Package) { p.Classes[2].Virtuals = []int{1, 1, 99} }},
		{"static before twice", api.ErrForm, func(p *api.Package) { p.Classes[2].Virtuals = []int{6, 6} }},
		{"an Impl before the next one", api.ErrLong, func(p *api.Package) {
			p.Classes[2].Impls[0].Methods, p.Classes[2].Impls[1].Interface = make([]int, 17), ref(9, 9)
		}},
		{"twice before Methods", api.ErrTwice, func(p *api.Package) {
			p.Classes[2].Impls[1] = api.Impl{Interface: ref(0, 0), Methods: make([]int, 17)}
		}},
		{"a class before the next one", api.ErrType, func(p *api.Package) { p.Classes[2].Fields[0], p.Classes[3].Super = void, ref(0, 3) }},
		{"the classes before the methods", api.ErrForm, func(p *api.Package) { p.Classes[4].Extends, p.Methods[0].Class = make([]api.Ref, 1), 9 }},
		{"Class before Params", api.ErrRange, func(p *api.Package) { p.Methods[7].Class, p.Methods[7].Params = 1, make([]api.Type, 7) }},
		{"Params before Abstract", api.ErrType, func(p *api.Package) { p.Methods[7].Params[0], p.Methods[7].Abstract = void, true }},
		{"Result before Abstract", api.ErrType, func(p *api.Package) { p.Methods[7].Result, p.Methods[7].Abstract = kind(6), true }},
		{"Abstract before Locals", api.ErrForm, func(p *api.Package) { p.Methods[5].Abstract, p.Methods[5].Locals = true, 99 }},
		{"Locals before Code", api.ErrRange, func(p *api.Package) { p.Methods[5].Locals, p.Methods[5].Code = 0, nil }},
		{"Stack before Code", api.ErrRange, func(p *api.Package) { p.Methods[5].Stack, p.Methods[5].Code = 99, nil }},
		{"no code before many handlers", api.ErrForm, func(p *api.Package) { p.Methods[5].Code, p.Methods[5].Handlers = nil, make([]api.Handler, 9) }},
		{"many handlers before the code", api.ErrLong, func(p *api.Package) { p.Methods[5].Code[0].Op, p.Methods[5].Handlers = -1, make([]api.Handler, 9) }},
		{"the code before the handlers", api.ErrForm, func(p *api.Package) { p.Methods[1].Code[5].Op, p.Methods[1].Handlers[0].From = -1, -1 }},
		{"a method before the next one", api.ErrRange, func(p *api.Package) { p.Methods[1].Handlers[0].From, p.Methods[2].Code = -1, nil }},
		{"the methods before the static fields", api.ErrForm, func(p *api.Package) { p.Methods[7].Code, p.Statics[0] = nil, void }},
		{"the static fields before the applets", api.ErrType, func(p *api.Package) { p.Statics[0], p.Applets[0].AID = void, nil }},
		{"an applet before the next one", api.ErrForm, func(p *api.Package) { p.Applets[0].Class, p.Applets[1].AID = 4, nil }},
		{"twice before the class of an applet", api.ErrTwice, func(p *api.Package) { p.Applets[1] = api.Applet{AID: p.Applets[0].AID, Class: 99} }},
		{"Install before the class of an applet", api.ErrRange, func(p *api.Package) { p.Applets[1].Class, p.Applets[1].Install = 0, 99 }},
		{"the class before the method of an applet", api.ErrForm, func(p *api.Package) { p.Applets[1].Class, p.Applets[1].Install = 0, 0 }},
		{"the applets before the bytes", api.ErrArg, func(p *api.Package) {
			p.Methods[5].Code = slices.Repeat(lines("push 1"), 256)
			p.Methods[7].Code, p.Applets[1].AID = p.Methods[5].Code, nil
		}},
	} {
		p := sample()
		x.do(&p)
		expectCheck(t, x.what, p, x.e)
	}
}

func TestCheckOfTheBytes(t *testing.T) {
	for _, x := range []struct {
		nops int
		e    api.Errno
	}{{0, api.OK}, {3, api.OK}, {4, api.OK}, {5, api.ErrLong}, {100, api.ErrLong}} {
		p := empty() // 16 bytes, and 9 for each method besides its code
		p.Methods = []api.Method{
			{Static: true, Code: slices.Repeat(lines("push 1"), 256)},
			{Static: true, Code: append(slices.Repeat(lines("push 1"), 146), make([]api.Instr, x.nops)...)},
		}
		if n := len(encoded(p)); n != 2044+x.nops {
			t.Fatal(n)
		}
		expectCheck(t, "bytes", p, x.e)
		b, e := loadfile.Encode(p)
		if e != x.e || e == api.OK && len(b) != 2044+x.nops || e != api.OK && len(b) > 0 {
			t.Error(len(b), e)
		}
	}
	p := sample() // a package with the most of everything, and much more bytes
	p.Classes = make([]api.Class, 32)
	for n := range p.Classes {
		p.Classes[n].Super = object()
	}
	p.Methods = slices.Repeat([]api.Method{{Static: true, Code: slices.Repeat(lines("push 1"), 256)}}, 64)
	p.Applets = nil
	expectCheck(t, "much", p, api.ErrLong)
}

// alter makes a random change of a value.
func alter(r *rand.Rand, v reflect.Value) {
	switch v.Kind() {
	case reflect.Struct:
		alter(r, v.Field(r.IntN(v.NumField())))
	case reflect.Bool:
		v.SetBool(!v.Bool())
	case reflect.Int:
		numbers := []int64{-1, 0, 1, 2, 3, 4, 5, 6, 7, 8, 9, 15, 16, 17, 31, 32, 63, 64, 255, 256, 65535, 65536, 1 << 32, v.Int() + 1, v.Int() - 1, math.MinInt64}
		v.SetInt(numbers[r.IntN(len(numbers))])
	case reflect.Uint8:
		v.SetUint(uint64(r.IntN(256)))
	case reflect.Slice:
		n := v.Len()
		switch x := r.IntN(12); {
		case n == 0 && x < 6:
			v.Set(reflect.MakeSlice(v.Type(), 1, 1))
		case n == 0:
		case x == 0:
			v.Set(v.Slice(0, n-1))
		case x == 1:
			v.Set(reflect.Append(v.Slice3(0, n, n), deepCopy(v.Index(r.IntN(n)))))
		case x == 2:
			v.Index(r.IntN(n)).Set(deepCopy(v.Index(r.IntN(n))))
		default:
			alter(r, v.Index(r.IntN(n)))
		}
	}
}

func TestCheckOfRandomPackages(t *testing.T) {
	r := rand.New(rand.NewPCG(28, 1))
	counts := map[api.Errno]int{}
	for n := range 20000 {
		p := copied(sample())
		if n%3 == 0 {
			p = random(r)
		}
		for range r.IntN(4) {
			alter(r, reflect.ValueOf(&p).Elem())
		}
		e, want := loadfile.Check(p), checked(p)
		if counts[want]++; e != want {
			t.Fatalf("Check of %v returns %d and not %d", p, e, want)
		}
	}
	for _, e := range []api.Errno{api.OK, api.ErrArg, api.ErrRange, api.ErrForm, api.ErrType, api.ErrTwice, api.ErrOrder} {
		if counts[e] < 100 {
			t.Error(e, counts[e])
		}
	}
}

// P28.5

func TestOrderOfClasses(t *testing.T) {
	r := rand.New(rand.NewPCG(28, 5))
	chains := 0
	for range 5000 {
		p := random(r)
		for range r.IntN(3) {
			if n := len(p.Classes); n > 0 {
				alter(r, reflect.ValueOf(&p.Classes[r.IntN(n)]).Elem())
			}
		}
		if loadfile.Check(p) != api.OK {
			continue
		}
		for n := range p.Classes {
			if up := built(p, n); up[n] {
				t.Fatalf("the class %d of %v is built on itself", n, p)
			} else if len(up) > 1 {
				chains++
			}
		}
	}
	if chains < 300 {
		t.Error(chains)
	}
}

// built returns the numbers of the classes of a package on which its class n is built, through whatever chain.
func built(p api.Package, n int) map[int]bool {
	up := map[int]bool{}
	for work := []int{n}; len(work) > 0; work = work[1:] {
		c := p.Classes[work[0]]
		for _, x := range append([]api.Ref{c.Super}, c.Extends...) {
			if x.Package == 0 && !up[x.Class] {
				up[x.Class] = true
				work = append(work, x.Class)
			}
		}
	}
	return up
}

func TestOrderOfTheExample(t *testing.T) {
	p := empty()
	p.Classes = []api.Class{{}} // its Super is itself
	expectCheck(t, "example 3", p, api.ErrOrder)
	p.Classes = []api.Class{{Super: object(), Interface: true}, {Super: object(), Interface: true, Extends: []api.Ref{ref(0, 2)}}, {Super: object(), Interface: true, Extends: []api.Ref{ref(0, 1)}}}
	expectCheck(t, "interfaces that extend each other", p, api.ErrOrder)
	p.Classes = []api.Class{{Super: ref(0, 1)}, {Super: ref(0, 0)}}
	expectCheck(t, "superclasses of each other", p, api.ErrOrder)
}
