package parse

import (
	"slices"
	"strconv"
	"strings"

	"gangway/expr"
	"gangway/forms"
	"gangway/lexer"
)

// isAnswered: whether All answers just this statement of its line, which is thereby held against all that the chapter asks of it.
func isAnswered(s Stmt, line string) bool {
	l, _, _ := All(line)
	return len(l) == 1 && isSame(l[0], s)
}

// isSame: but for the lines.
func isSame(a, b Stmt) bool {
	return a.Kind == b.Kind && a.Name == b.Name && a.Text == b.Text && a.Inst == b.Inst && slices.Equal(a.Args, b.Args) && slices.Equal(a.Values, b.Values)
}

// written: the line of a statement, without its line feed; some line that is not its own, if it has none.
func written(s Stmt) string {
	switch s.Kind {
	case Label:
		return s.Name + ":"
	case Code:
		text, _ := forms.Text(s.Inst)
		return text
	case Section:
		return ".section " + s.Name + ", " + lexer.Quote(flagLetters(s.arg(1))) + ", @" + sectionTypes().text(s.arg(0))
	case Data:
		return dataSizes().text(s.arg(0)) + " " + s.values()
	case Ascii:
		return ".ascii " + lexer.Quote(s.Text)
	case Align:
		return ".balign " + s.args(", ")
	case Zero:
		return ".zero " + s.args(", ")
	case Bind:
		return bindings().text(s.arg(0)) + " " + s.Name
	case Type:
		return ".type " + s.Name + ", @" + symbolTypes().text(s.arg(0))
	case Size:
		return ".size " + s.Name + ", " + s.values()
	case Set:
		return ".set " + s.Name + ", " + s.values()
	case Cfi:
		return strings.TrimSuffix(cfiPrefix+s.Name+" "+s.args(", "), " ")
	case File:
		return ".file " + s.args(" ") + " " + lexer.Quote(s.Text)
	case Loc:
		return ".loc " + s.args(" ")
	case Tlsgd:
		return ".tlsgd " + s.Name
	case Tlsld:
		return ".tlsld"
	}
	return ""
}

func flagLetters(flags int) string {
	letters := ""
	for _, w := range sectionFlags() {
		if flags&w.n != 0 {
			letters += w.text
		}
	}
	return letters
}

// arg: 0, if there is none at that place.
func (s Stmt) arg(at int) int {
	if at >= len(s.Args) {
		return 0
	}
	return s.Args[at]
}

func (s Stmt) args(between string) string {
	var texts []string
	for _, n := range s.Args {
		texts = append(texts, strconv.Itoa(n))
	}
	return strings.Join(texts, between)
}

func (s Stmt) values() string {
	var texts []string
	for _, v := range s.Values {
		texts = append(texts, expr.Text(v))
	}
	return strings.Join(texts, ", ")
}
