package garage

import (
	"strconv"

	"crumple/api"
	"crumple/lines"
	"crumple/lists"
)

// line returns the line of an act of a kind.
func (k kind) line(a Act) string {
	numbers := lists.Mapped(k.fields(&a), func(field *int) string { return strconv.Itoa(*field) })
	return lines.Line(append([]string{a.Kind}, numbers...)...)
}

// Print returns the string of acts.
func Print(h Hall, l []Act) (string, api.Errno) {
	if _, e := h.after(l); e != api.OK {
		return "", e
	}
	all := kinds()
	text := ""
	for _, a := range l {
		text += all[a.Kind].line(a)
	}
	if len(text) > api.MaxText {
		return "", api.ErrLong
	}
	return text, api.OK
}

// readAct takes the words of a line.
func readAct(w *lines.Words) Act {
	number := w.Natural
	a := Act{Kind: w.Word()}
	k, isKind := kinds()[a.Kind]
	if !isKind {
		w.Reject()
		return Act{}
	}
	for _, field := range k.fields(&a) {
		*field = number()
	}
	return a
}

// Parse returns the acts of a string, and the index of the first line that is wrong.
func Parse(h Hall, s string) ([]Act, int, api.Errno) {
	if e := CheckHall(h); e != api.OK {
		return nil, 0, e
	}
	l, at, e := lines.Checked(s, readAct, func(l []Act) api.Errno { return checkActs(h, l) })
	if e != api.OK {
		return nil, at, e
	}
	if states, e := h.run(l); e != api.OK {
		return nil, len(states), e
	}
	return l, 0, api.OK
}
