package doc

import (
	"pathfindery/api"
	"pathfindery/text"
)

// checkAt is what the calls that ask for one element tell first.
func checkAt(d api.Doc, n int) api.Errno {
	if err := Check(d); err != api.OK {
		return err
	}
	if !has(d, n) {
		return api.ErrNone
	}
	return api.OK
}

func has(d api.Doc, n int) bool { return n >= 0 && n < len(d.Nodes) }

// isRight tells whether an element is right, wherever it hangs.
func isRight(x api.Node) bool {
	return text.IsName(x.Tag) && (x.Id == "" || text.IsName(x.Id)) &&
		areRight(x.Classes, api.MaxClasses, func(class string) string { return class }) &&
		areRight(x.Attrs, api.MaxAttrs, func(a api.Attr) string { return a.Name }) &&
		haveValues(x.Attrs)
}

// areRight tells whether there are at most so many, and all have names, which rise.
func areRight[T any](list []T, most int, name func(T) string) bool {
	if len(list) > most {
		return false
	}
	for _, x := range list {
		if !text.IsName(name(x)) {
			return false
		}
	}
	return rise(list, name)
}

// rise tells whether each name is greater than the one ahead of it; no two are the same, then.
func rise[T any](list []T, name func(T) string) bool {
	for i := 1; i < len(list); i++ {
		if name(list[i-1]) >= name(list[i]) {
			return false
		}
	}
	return true
}

func haveValues(attrs []api.Attr) bool {
	for _, a := range attrs {
		if !text.IsValue(a.Value) {
			return false
		}
	}
	return true
}

// hangsRight tells whether Up of element n is right. Those ahead of it must hang right: only then does the way up from them end.
func hangsRight(nodes []api.Node, n int) bool {
	if n == 0 {
		return nodes[0].Up == -1
	}
	for up := n - 1; up >= 0; up = nodes[up].Up {
		if up == nodes[n].Up {
			return true
		}
	}
	return false
}
