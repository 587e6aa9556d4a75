package desk

import (
	"slices"
	"strconv"
	"strings"

	"pathfindery/api"
	"pathfindery/index"
	"pathfindery/live"
	"pathfindery/mark"
	"pathfindery/match"
	"pathfindery/path"
	"pathfindery/plain"
)

const (
	done = "ok"
	none = "none"
)

// answer tells what a line gives. A line that is refused is left by a panic with its error, ahead of any change of the page.
func answer(page *api.Page, line string) (given string) {
	defer func() {
		if err, refused := recover().(api.Errno); refused {
			given = "error " + strconv.Itoa(int(err))
		}
	}()
	return obey(page, line)
}

func obey(page *api.Page, line string) string {
	if line == "show" {
		return must(mark.Show(page.Doc))
	}
	word, rest, _ := strings.Cut(line, " ")
	switch word {
	case "load":
		return load(page, rest)
	case "insert":
		return insert(page, rest)
	case "remove":
		return remove(page, rest)
	case "class":
		return class(page, rest)
	case "find":
		return find(*page, rest)
	case "nearest":
		return nearest(*page, rest)
	case "plain":
		return must(path.Show(must(plain.Plain(must(path.Read(rest))))))
	}
	refuse(api.ErrForm)
	return ""
}

func load(page *api.Page, rest string) string {
	*page = must(live.Open(must(mark.Read(rest))))
	return done
}

func insert(page *api.Page, rest string) string {
	up, rest := cutNumber(rest)
	at, rest := cutNumber(rest)
	*page = must(live.Insert(*page, up, at, must(mark.Read(rest))))
	return done
}

func remove(page *api.Page, rest string) string {
	*page = must(live.Remove(*page, number(rest)))
	return done
}

func class(page *api.Page, rest string) string {
	n, name := cutNumber(rest)
	if name == "" || strings.Contains(name, " ") {
		refuse(api.ErrForm)
	}
	// Told ahead of what Put says of the name.
	if n >= len(page.Doc.Nodes) {
		refuse(api.ErrNone)
	}
	x := page.Doc.Nodes[n]
	x.Classes = turned(x.Classes, name)
	*page = must(live.Put(*page, n, x))
	return done
}

// turned leaves the class out, if it is one of those, which rise; else it is put in where it belongs.
func turned(classes []string, name string) []string {
	mine := slices.Clone(classes)
	at, is := slices.BinarySearch(mine, name)
	if is {
		return slices.Delete(mine, at, at+1)
	}
	return slices.Insert(mine, at, name)
}

func find(page api.Page, rest string) string {
	found := must(index.Find(page, must(path.Read(rest))))
	if len(found) == 0 {
		return none
	}
	var words []string
	for _, n := range found {
		words = append(words, strconv.Itoa(n))
	}
	return strings.Join(words, " ")
}

func nearest(page api.Page, rest string) string {
	n, rest := cutNumber(rest)
	up, is, err := match.Nearest(page.Doc, must(path.Read(rest)), n)
	if err != api.OK {
		refuse(err)
	}
	if !is {
		return none
	}
	return strconv.Itoa(up)
}
