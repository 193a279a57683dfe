package ir

import (
	"strconv"

	"distaff/api"
)

// Print is a function as a text: a line for itself, for each block, for each instruction, and for each end.
func Print(f api.Func) string {
	out := []byte("func " + f.Name)
	out = say(out, "", f.Params...)
	out = say(out, " :", f.Ret)
	for b, k := range f.Blocks {
		out = say(out, "\nblock", b)
		out = say(out, " from", k.Preds...)
		for _, id := range k.List {
			if has(&f, id) {
				out = sayIns(out, id, f.Ins[id])
			}
		}
		out = say(out, "\n  end", k.Term.Kind, k.Term.Arg)
		out = say(out, " to", k.Term.To...)
	}
	return string(append(out, '\n'))
}

func sayIns(out []byte, id int, x api.Ins) []byte {
	out = say(out, "\n ", id)
	out = say(out, " =", x.Op)
	out = say(out, "", x.Args...)
	out = say(out, " ;", x.Type)
	out = strconv.AppendInt(append(out, ' '), x.N, 10)
	return say(out, "", x.To)
}

// say lays down a word, and numbers, a space ahead of each.
func say(out []byte, word string, numbers ...int) []byte {
	out = append(out, word...)
	for _, n := range numbers {
		out = strconv.AppendInt(append(out, ' '), int64(n), 10)
	}
	return out
}
