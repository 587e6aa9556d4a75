package path

import "pathfindery/api"

// form is which fields the tests of a kind have, and the texts that stand ahead of them, behind the name, and behind all.
type form struct {
	name, value, count, list bool
	begin, sign, end         string
}

var forms = [...]form{
	api.HasClass:   {name: true, begin: "."},
	api.HasId:      {name: true, begin: "#"},
	api.HasAttr:    {name: true, begin: "[", sign: "]"},
	api.AttrIs:     {name: true, value: true, begin: "[", sign: "=", end: "]"},
	api.AttrBegins: {name: true, value: true, begin: "[", sign: "^=", end: "]"},
	api.AttrEnds:   {name: true, value: true, begin: "[", sign: "$=", end: "]"},
	api.AttrHolds:  {name: true, value: true, begin: "[", sign: "*=", end: "]"},
	api.AttrWord:   {name: true, value: true, begin: "[", sign: "~=", end: "]"},
	api.NthKid:     {count: true, begin: ":nth(", end: ")"},
	api.NthLast:    {count: true, begin: ":last(", end: ")"},
	api.Empty:      {begin: ":empty"},
	api.Root:       {begin: ":root"},
	api.Not:        {list: true, begin: ":not(", end: ")"},
	api.Is:         {list: true, begin: ":is(", end: ")"},
	api.Has:        {list: true, begin: ":has(", end: ")"},
}

var links = [...]string{
	api.Below: " ",
	api.Kid:   " > ",
	api.Next:  " + ",
	api.Later: " ~ ",
}

func isKind(kind int) bool { return kind >= api.HasClass && kind <= api.Has }

func isLink(link int) bool { return link >= api.Below && link <= api.Later }

// hasList is asked of any test, of one without a right kind too.
func hasList(t api.Test) bool { return isKind(t.Kind) && forms[t.Kind].list }
