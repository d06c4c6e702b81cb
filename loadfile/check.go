package loadfile

import (
	"slices"

	"smartcard/api"
)

const maxVersion = 255

// first returns the first error that check returns for the numbers from 0 to n - 1.
func first(n int, check func(int) api.Errno) api.Errno {
	for i := range n {
		if e := check(i); e != api.OK {
			return e
		}
	}
	return api.OK
}

// isBelow reports whether a number is from 0 to limit - 1.
func isBelow(n, limit int) bool { return n >= 0 && n < limit }

func isAID(aid []byte) bool { return len(aid) >= api.MinAID && len(aid) <= api.MaxAID }

// isVersion reports whether both numbers of a version are version numbers.
func isVersion(major, minor int) bool {
	return isBelow(major, maxVersion+1) && isBelow(minor, maxVersion+1)
}

// object returns the class of which all objects are.
func object() api.Ref { return api.Ref{Package: api.System, Class: api.ClassObject} }

// checkParts reports whether a package is well formed, apart from the number of its bytes.
func checkParts(p api.Package) api.Errno {
	switch {
	case !isAID(p.AID):
		return api.ErrArg
	case !isVersion(p.Major, p.Minor):
		return api.ErrRange
	case len(p.Imports) > api.MaxImports || len(p.Classes) > api.MaxClasses || len(p.Methods) > api.MaxMethods || len(p.Statics) > api.MaxFields || len(p.Applets) > api.MaxClasses:
		return api.ErrLong
	}
	if e := first(len(p.Imports), func(n int) api.Errno { return checkImport(p, n) }); e != api.OK {
		return e
	}
	if e := first(len(p.Classes), func(n int) api.Errno { return checkClass(p, n) }); e != api.OK {
		return e
	}
	if e := first(len(p.Methods), func(n int) api.Errno { return checkMethod(p, p.Methods[n]) }); e != api.OK {
		return e
	}
	if !areUsable(p, p.Statics) {
		return api.ErrType
	}
	return first(len(p.Applets), func(n int) api.Errno { return checkApplet(p, n) })
}

func checkImport(p api.Package, n int) api.Errno {
	i := p.Imports[n]
	switch {
	case !isAID(i.AID):
		return api.ErrArg
	case !isVersion(i.Major, i.Minor):
		return api.ErrRange
	case sameName(i.AID, p.AID) || slices.ContainsFunc(p.Imports[:n], func(x api.Import) bool { return sameName(i.AID, x.AID) }):
		return api.ErrTwice
	}
	return api.OK
}

// isInRange reports whether a reference within a package is in range.
func isInRange(p api.Package, r api.Ref) bool {
	switch r.Package {
	case 0:
		return isBelow(r.Class, len(p.Classes))
	case api.System:
		return r.Class == api.ClassObject || r.Class == api.ClassShareable
	}
	return r.Package >= 1 && r.Package <= len(p.Imports) && isBelow(r.Class, api.MaxClasses)
}

// isUsable reports whether a type is usable within a package.
func isUsable(p api.Package, t api.Type) bool {
	if t.Kind == api.TypeClass {
		return isInRange(p, t.Class)
	}
	return t.Kind >= api.TypeInt && t.Kind < api.TypeClass && t.Class == api.Ref{}
}

func areUsable(p api.Package, l []api.Type) bool {
	return !slices.ContainsFunc(l, func(t api.Type) bool { return !isUsable(p, t) })
}

// isResult reports whether a type is usable as a result within a package.
func isResult(p api.Package, t api.Type) bool {
	return t == api.Type{Kind: api.TypeVoid} || isUsable(p, t)
}

func checkApplet(p api.Package, n int) api.Errno {
	a := p.Applets[n]
	switch {
	case !isAID(a.AID):
		return api.ErrArg
	case slices.ContainsFunc(p.Applets[:n], func(x api.Applet) bool { return sameName(a.AID, x.AID) }):
		return api.ErrTwice
	case !isBelow(a.Class, len(p.Classes)) || !isBelow(a.Install, len(p.Methods)):
		return api.ErrRange
	case p.Classes[a.Class].Interface || len(p.Classes[a.Class].Virtuals) < api.VirtualApplet:
		return api.ErrForm
	case !isInstall(p.Methods[a.Install]):
		return api.ErrType
	}
	return api.OK
}

// isInstall reports whether a method can install applets.
func isInstall(m api.Method) bool {
	return m.Static && slices.Equal(m.Params, []api.Type{{Kind: api.TypeBytes}}) &&
		m.Result == api.Type{Kind: api.TypeClass, Class: object()}
}
