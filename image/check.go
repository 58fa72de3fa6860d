package image

import (
	"trammel/api"
	"trammel/ops"
)

// checkParts tells what Check does, but for the module's bytes in all.
func checkParts(m api.Module) api.Errno {
	if len(m.Types) > api.MaxTypes || len(m.Texts) > api.MaxTexts || len(m.Funcs) > api.MaxFuncs {
		return api.ErrLimit
	}
	for _, x := range m.Types {
		if err := checkType(x, m); err != api.OK {
			return err
		}
	}
	for _, s := range m.Texts {
		if len(s) > api.MaxText {
			return api.ErrLimit
		}
	}
	for _, f := range m.Funcs {
		if err := checkFunc(f, m); err != api.OK {
			return err
		}
	}
	return api.OK
}

func checkType(x api.Type, m api.Module) api.Errno {
	if !typeFits(x) {
		return api.ErrLimit
	}
	if !typeMayBe(x, m) {
		return api.ErrModule
	}
	return api.OK
}

func typeFits(x api.Type) bool {
	if len(x.Fields) > api.MaxFields || len(x.Name) > api.MaxText {
		return false
	}
	for _, f := range x.Fields {
		if len(f.Name) > api.MaxText {
			return false
		}
	}
	return true
}

func typeMayBe(x api.Type, m api.Module) bool {
	switch x.Kind {
	case api.Record:
		return x.Elem == 0 && x.Len == 0 && fieldsAreThere(x.Fields, m)
	case api.Fixed:
		return isBare(x) && isThere(x.Elem, m) && x.Len >= 0 && x.Len <= api.MaxArray
	case api.Grow:
		return isBare(x) && isThere(x.Elem, m) && x.Len == 0
	}
	return false
}

// isBare: has the type nothing that a Record alone has?
func isBare(x api.Type) bool { return x.Name == "" && len(x.Fields) == 0 }

func fieldsAreThere(fields []api.Field, m api.Module) bool {
	for _, f := range fields {
		if !isThere(f.Type, m) {
			return false
		}
	}
	return true
}

func isThere(typ int, m api.Module) bool {
	if typ < api.FirstType {
		return typ >= api.I8 && typ <= api.Text
	}
	return typ-api.FirstType < len(m.Types)
}

func areThere(types []int, m api.Module) bool {
	for _, typ := range types {
		if !isThere(typ, m) {
			return false
		}
	}
	return true
}

func checkFunc(f api.Routine, m api.Module) api.Errno {
	if !funcFits(f) {
		return api.ErrLimit
	}
	if !funcMayBe(f, m) {
		return api.ErrModule
	}
	return api.OK
}

func funcFits(f api.Routine) bool {
	return len(f.Params) <= api.MaxParams && len(f.Results) <= api.MaxResults && f.Locals <= api.MaxLocals &&
		len(f.Code) <= api.MaxCode && len(f.Name) <= api.MaxText && f.Stack <= api.MaxStack
}

func funcMayBe(f api.Routine, m api.Module) bool {
	return areThere(f.Params, m) && areThere(f.Results, m) && f.Locals >= len(f.Params) && f.Stack >= 0 && codeMayBe(f, m)
}

func codeMayBe(f api.Routine, m api.Module) bool {
	list, _, err := ops.All(f.Code)
	if err != api.OK {
		return false
	}
	for _, x := range list {
		if !instrMayBe(x, f.Locals, m) {
			return false
		}
	}
	return true
}

func instrMayBe(x api.Instr, locals int, m api.Module) bool {
	if (x.Op == api.OpGet || x.Op == api.OpPut) && x.A >= int64(locals) {
		return false
	}
	_, _, err := ops.Takes(x, m)
	return err == api.OK
}
