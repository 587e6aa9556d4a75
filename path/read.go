package path

import (
	"pathfindery/api"
	"pathfindery/nth"
	"pathfindery/text"
)

// Of everything no more is read than there may be, so that no text makes the lists long or the calls go deep; what is more is left standing, and nothing else takes it.

// readList reads a list that lies so deep.
func readList(r *text.Reader, deep int) []api.Path {
	if deep > api.MaxDeep {
		text.Refuse()
	}
	l := []api.Path{readPath(r, deep)}
	for len(l) < api.MaxList && r.Take(", ") {
		l = append(l, readPath(r, deep))
	}
	return l
}

func readPath(r *text.Reader, deep int) api.Path {
	p := api.Path{Steps: []api.Step{readStep(r, deep)}}
	for len(p.Steps) < api.MaxParts {
		link, ok := readLink(r)
		if !ok {
			break
		}
		p.Links = append(p.Links, link)
		p.Steps = append(p.Steps, readStep(r, deep))
	}
	return p
}

// readLink tries Below last: the others begin with it.
func readLink(r *text.Reader) (int, bool) {
	for link := api.Later; link >= api.Below; link-- {
		if r.Take(links[link]) {
			return link, true
		}
	}
	return 0, false
}

func readStep(r *text.Reader, deep int) api.Step {
	var s api.Step
	if !r.Take("*") {
		s.Tag = r.Name()
	}
	for len(s.Tests) < api.MaxTests {
		kind, ok := readBegin(r)
		if !ok {
			break
		}
		s.Tests = append(s.Tests, readTest(r, kind, deep))
	}
	return s
}

// readBegin tells the first kind whose tests begin so.
func readBegin(r *text.Reader) (int, bool) {
	for kind := api.HasClass; kind <= api.Has; kind++ {
		if r.Take(forms[kind].begin) {
			return kind, true
		}
	}
	return 0, false
}

// readTest reads what stands behind the beginning of a test of that kind, or of another that begins so.
func readTest(r *text.Reader, kind, deep int) api.Test {
	var t api.Test
	if forms[kind].name {
		t.Name = r.Name()
	}
	t.Kind = readSign(r, kind)
	f := forms[t.Kind]
	if f.value {
		t.Value = r.Value()
	}
	if f.count {
		t.Nth = readNth(r, f.end)
	}
	if f.list {
		t.List = readList(r, deep+1)
	}
	r.Need(f.end)
	return t
}

// readSign tells kinds that begin alike apart by what stands behind the name.
func readSign(r *text.Reader, kind int) int {
	begin := forms[kind].begin
	for kind <= api.Has && forms[kind].begin == begin {
		if r.Take(forms[kind].sign) {
			return kind
		}
		kind++
	}
	text.Refuse()
	return 0
}

func readNth(r *text.Reader, end string) api.Nth {
	x, err := nth.Read(r.Until(end))
	if err != api.OK {
		text.Refuse()
	}
	return x
}
