package fault

import "strings"

const (
	pathMark = " "  // ahead of a Fault's path
	inMark   = ": " // ahead of what is in a Fault
	listMark = "; " // between two errors of a List
)

// whole: the text of an error.
func whole(err error) string {
	var b strings.Builder
	tell(&b, err)
	return b.String()
}

// tell: an error's text goes behind what is there. Every text is written once, however deep it lies: texts that are put together level by level would be copied at each of them.
func tell(b *strings.Builder, err error) {
	switch x := err.(type) {
	case nil:
	case *Fault:
		tellFault(b, x)
	case *List:
		tellList(b, x)
	default:
		b.WriteString(x.Error())
	}
}

func tellFault(b *strings.Builder, f *Fault) {
	if f == nil {
		return
	}
	b.WriteString(f.Op)
	if f.Path != "" {
		b.WriteString(pathMark)
		b.WriteString(f.Path)
	}
	b.WriteString(inMark)
	tell(b, f.Err)
}

func tellList(b *strings.Builder, l *List) {
	if l == nil {
		return
	}
	for i, err := range l.errs {
		if i > 0 {
			b.WriteString(listMark)
		}
		tell(b, err)
	}
}
