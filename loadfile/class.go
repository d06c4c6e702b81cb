package loadfile

import (
	"slices"

	"smartcard/api"
)

// checkClass checks the class of a package with the number n.
func checkClass(p api.Package, n int) api.Errno {
	c := p.Classes[n]
	if e := checkRef(p, n, c.Super); e != api.OK {
		return e
	}
	switch {
	case c.Interface && (c.Super != object() || len(c.Fields) > 0 || len(c.Impls) > 0):
		return api.ErrForm
	case !c.Interface && len(c.Extends) > 0:
		return api.ErrForm
	case len(c.Extends) > api.MaxClasses || len(c.Fields) > api.MaxFields || len(c.Virtuals) > api.MaxVirtuals || len(c.Impls) > api.MaxClasses:
		return api.ErrLong
	}
	if e := first(len(c.Extends), func(i int) api.Errno { return checkRef(p, n, c.Extends[i]) }); e != api.OK {
		return e
	}
	if !areUsable(p, c.Fields) {
		return api.ErrType
	}
	if e := first(len(c.Virtuals), func(i int) api.Errno { return checkVirtual(p, n, i) }); e != api.OK {
		return e
	}
	return first(len(c.Impls), func(i int) api.Errno { return checkImpl(p, c.Impls, i) })
}

// checkRef checks a reference of the class n to one on which it is built. Only earlier classes of the package are permitted, so that no class is built on itself.
func checkRef(p api.Package, n int, r api.Ref) api.Errno {
	switch {
	case !isInRange(p, r):
		return api.ErrRange
	case r.Package == 0 && r.Class >= n:
		return api.ErrOrder
	}
	return api.OK
}

// checkVirtual checks the element i of Virtuals of the class n.
func checkVirtual(p api.Package, n, i int) api.Errno {
	c := p.Classes[n]
	number := c.Virtuals[i]
	if number == inherited {
		if c.Interface {
			return api.ErrForm
		}
		return api.OK
	}
	switch {
	case !isBelow(number, len(p.Methods)):
		return api.ErrRange
	case p.Methods[number].Static || p.Methods[number].Class != n:
		return api.ErrForm
	case slices.Contains(c.Virtuals[:i], number):
		return api.ErrTwice
	}
	return api.OK
}

// checkImpl checks the element i of Impls of a class.
func checkImpl(p api.Package, l []api.Impl, i int) api.Errno {
	x := l[i]
	switch {
	case !isInRange(p, x.Interface):
		return api.ErrRange
	case slices.ContainsFunc(l[:i], func(y api.Impl) bool { return x.Interface == y.Interface }):
		return api.ErrTwice
	case len(x.Methods) > api.MaxVirtuals:
		return api.ErrLong
	case slices.ContainsFunc(x.Methods, func(n int) bool { return !isBelow(n, api.MaxVirtuals) }):
		return api.ErrRange
	}
	return api.OK
}
