package lex

import (
	"math"
	"math/big"
	"math/rand"
	"regexp"
	"slices"
	"strings"
	"testing"

	"distaff/api"
)

// The words below stand as the chapter tells them.
const (
	keptNames = "fn var if else while for to step break continue return print new len rows cols input true false int bool"
	allSigns  = ">>> << >> <= >= == != && || ( ) { } [ ] , ; : = < > + - * / % & | ^ ! ~"
)

func TestNumbersOfKinds(t *testing.T) {
	kinds := []int{api.TokEnd, api.TokName, api.TokInt, api.TokWord, api.TokSign}
	if !slices.Equal(kinds, []int{0, 1, 2, 3, 4}) {
		t.Error("tokens", kinds)
	}
	faults := []int{api.FaultNone, api.FaultLex, api.FaultSyntax, api.FaultType, api.FaultSize}
	if !slices.Equal(faults, []int{0, 1, 2, 3, 4}) {
		t.Error("faults", faults)
	}
	if api.MostSource != 1<<20 {
		t.Error("MostSource", api.MostSource)
	}
}

// tokens are the tokens of a text that has no fault.
func tokens(t *testing.T, s string) []api.Token {
	t.Helper()
	l, fault := Lex(s)
	if fault != (api.Fault{}) || len(l) == 0 {
		t.Fatalf("%q: %v %v", s, l, fault)
	}
	return l
}

// has asks for the tokens ahead of the end, told as texts.
func has(t *testing.T, s string, want ...string) {
	t.Helper()
	var got []string
	for _, token := range tokens(t, s) {
		got = append(got, token.S)
	}
	if !slices.Equal(got, append(want, "")) {
		t.Errorf("%q: %q, not %q", s, got, want)
	}
}

// fails asks for a fault, and for nothing beside it.
func fails(t *testing.T, s string, kind, at int) {
	t.Helper()
	l, fault := Lex(s)
	if len(l) != 0 || fault != (api.Fault{Kind: kind, At: at}) {
		t.Errorf("%.40q (of %d bytes): %d tokens, %v, not fault %d at %d", s, len(s), len(l), fault, kind, at)
	}
}

// Promise 2.1: Kept and Name.

func TestKept(t *testing.T) {
	names := strings.Fields(keptNames)
	if len(names) != 21 {
		t.Fatal(len(names))
	}
	for _, s := range names {
		if !Kept(s) {
			t.Error("is kept:", s)
		}
		for _, other := range []string{s + "x", s + "_", s + "1", s + " ", " " + s, "_" + s, s[1:], s[:len(s)-1], strings.ToUpper(s), strings.ToUpper(s[:1]) + s[1:], s + s, s + "\x00"} {
			if Kept(other) != slices.Contains(names, other) {
				t.Errorf("Kept(%q): %t", other, Kept(other))
			}
		}
	}
	for _, s := range append(strings.Fields(allSigns), "", " ", "main", "and", "or", "not", "void", "func", "char", "string", "let", "do", "end", "row", "col", "0", "é") {
		if Kept(s) {
			t.Errorf("is not kept: %q", s)
		}
	}
}

func TestName(t *testing.T) {
	for _, s := range []string{"a", "z", "A", "Z", "_", "__", "_0", "a0", "a9", "Z9z", "main", "and", "Fn", "fn1", "fn_", "_fn", "TRUE", "iff", "i", "in", "inputs", strings.Repeat("a9_Z", 1<<18+1)} {
		if !Name(s) {
			t.Errorf("may be a name: %.40q", s)
		}
	}
	for _, s := range append(strings.Fields(keptNames), "", "0", "9a", "1_", " a", "a ", "a b", "a\n", "a-b", "a.b", "a#", "#a", "é", "aé", "a\x00", "\x00", "a\xff", "+", "a$", "@", "`", "ａ") {
		if Name(s) {
			t.Errorf("may be no name: %q", s)
		}
	}
}

func TestNameOfBytes(t *testing.T) {
	letters := "abcdefghijklmnopqrstuvwxyzABCDEFGHIJKLMNOPQRSTUVWXYZ_"
	for c := range 256 {
		s := string([]byte{byte(c)})
		if Name(s) != strings.Contains(letters, s) {
			t.Errorf("Name(%q): %t", s, Name(s))
		}
		if Name("q"+s) != strings.Contains(letters+"0123456789", s) {
			t.Errorf("Name(%q): %t", "q"+s, Name("q"+s))
		}
	}
}

// Promise 2.1: tokens.

func TestExample(t *testing.T) {
	want := []api.Token{
		{Kind: api.TokName, At: 0, S: "a1"},
		{Kind: api.TokSign, At: 2, S: ">="},
		{Kind: api.TokInt, At: 4, N: 2, S: "2"},
		{Kind: api.TokEnd, At: 5},
	}
	if l := tokens(t, "a1>=2"); !slices.Equal(l, want) {
		t.Error(l)
	}
}

func TestProgram(t *testing.T) {
	s := "fn main(): int { # all of it\n\tvar m_0 = 07;\r\n\treturn -m_0; }"
	want := []api.Token{
		{Kind: api.TokWord, At: 0, S: "fn"},
		{Kind: api.TokName, At: 3, S: "main"},
		{Kind: api.TokSign, At: 7, S: "("},
		{Kind: api.TokSign, At: 8, S: ")"},
		{Kind: api.TokSign, At: 9, S: ":"},
		{Kind: api.TokWord, At: 11, S: "int"},
		{Kind: api.TokSign, At: 15, S: "{"},
		{Kind: api.TokWord, At: 30, S: "var"},
		{Kind: api.TokName, At: 34, S: "m_0"},
		{Kind: api.TokSign, At: 38, S: "="},
		{Kind: api.TokInt, At: 40, N: 7, S: "07"},
		{Kind: api.TokSign, At: 42, S: ";"},
		{Kind: api.TokWord, At: 46, S: "return"},
		{Kind: api.TokSign, At: 53, S: "-"},
		{Kind: api.TokName, At: 54, S: "m_0"},
		{Kind: api.TokSign, At: 57, S: ";"},
		{Kind: api.TokSign, At: 59, S: "}"},
		{Kind: api.TokEnd, At: 60},
	}
	if l := tokens(t, s); !slices.Equal(l, want) {
		t.Error(l)
	}
}

func TestOneWord(t *testing.T) {
	kinds := map[int][]string{
		api.TokWord: strings.Fields(keptNames),
		api.TokSign: strings.Fields(allSigns),
		api.TokName: {"a", "_", "Z", "fnx", "and", "to1", "stepstep", "x0123456789_"},
		api.TokInt:  {"0", "9", "12", "000"},
	}
	for kind, words := range kinds {
		for _, s := range words {
			l := tokens(t, "  "+s+" ")
			if len(l) != 2 || l[0].Kind != kind || l[0].At != 2 || l[0].S != s {
				t.Errorf("%q: %v", s, l)
			}
			if l[1] != (api.Token{Kind: api.TokEnd, At: len(s) + 3}) {
				t.Errorf("%q: %v", s, l[1])
			}
			if kind != api.TokInt && l[0].N != 0 {
				t.Errorf("%q: %v", s, l[0])
			}
		}
	}
}

func TestLongestSigns(t *testing.T) {
	has(t, ">>>>", ">>>", ">")
	has(t, ">>>>>", ">>>", ">>")
	has(t, ">>>=", ">>>", "=")
	has(t, ">>=", ">>", "=")
	has(t, ">> >", ">>", ">")
	has(t, ">=>", ">=", ">")
	has(t, "=>", "=", ">")
	has(t, "===", "==", "=")
	has(t, "====", "==", "==")
	has(t, "!==", "!=", "=")
	has(t, "!!=", "!", "!=")
	has(t, "= =", "=", "=")
	has(t, "<<<", "<<", "<")
	has(t, "<<=", "<<", "=")
	has(t, "<=<", "<=", "<")
	has(t, "<>", "<", ">")
	has(t, "&&&", "&&", "&")
	has(t, "|||", "||", "|")
	has(t, "&|&", "&", "|", "&")
	has(t, "--1", "-", "-", "1")
	has(t, "[[int]]", "[", "[", "int", "]", "]")
}

func TestWordsSideBySide(t *testing.T) {
	has(t, "1a", "1", "a")
	has(t, "1fn", "1", "fn")
	has(t, "fn1", "fn1")
	has(t, "0x1F", "0", "x1F")
	has(t, "1_000", "1", "_000")
	has(t, "12 34", "12", "34")
	has(t, "a#b\nc", "a", "c")
	has(t, "1#2\n3", "1", "3")
	has(t, "whileif", "whileif")
	has(t, "while if", "while", "if")
	has(t, "a=-1", "a", "=", "-", "1")
}

func TestNothingBetween(t *testing.T) {
	has(t, "")
	has(t, " \t\r\n\n ")
	has(t, "#")
	has(t, "# a note without an end of line")
	has(t, "#\r a")
	has(t, "#a\r\nb", "b")
	has(t, "#\n#\n#b")
	has(t, "###\na", "a")
	has(t, "a# \"é\x00\xff@$ 99999999999999999999\nb", "a", "b")
	has(t, "a\rb\tc\nd", "a", "b", "c", "d")
}

func TestEnd(t *testing.T) {
	for _, s := range []string{"", " ", "a", "a ", "a # b", "a\n", "\n\n"} {
		l := tokens(t, s)
		if l[len(l)-1] != (api.Token{Kind: api.TokEnd, At: len(s)}) {
			t.Errorf("%q: %v", s, l)
		}
		for _, token := range l[:len(l)-1] {
			if token.Kind == api.TokEnd {
				t.Errorf("%q: %v", s, l)
			}
		}
	}
}

func TestNumbers(t *testing.T) {
	for s, want := range map[string]int64{
		"0": 0, "1": 1, "10": 10, "007": 7, "0000000000000000000000000000": 0,
		"4294967296":                    1 << 32,
		"9223372036854775807":           math.MaxInt64,
		"9223372036854775808":           math.MinInt64,
		"9223372036854775809":           math.MinInt64 + 1,
		"18446744073709551614":          -2,
		"18446744073709551615":          -1,
		"0018446744073709551615":        -1,
		strings.Repeat("0", 5000) + "5": 5,
	} {
		l := tokens(t, s)
		if len(l) != 2 || l[0] != (api.Token{Kind: api.TokInt, N: want, S: s}) {
			t.Errorf("%.40q: %v", s, l)
		}
	}
}

// Promise 2.1: faults.

func TestNumberWithTooMuch(t *testing.T) {
	for _, s := range []string{"18446744073709551616", "18446744073709551620", "18446744073709551999", "36893488147419103232", "99999999999999999999", "100000000000000000000", "184467440737095516150", "00018446744073709551616", "1" + strings.Repeat("0", 5000), strings.Repeat("9", api.MostSource)} {
		fails(t, s, api.FaultLex, 0)
	}
	fails(t, "a = 18446744073709551616;", api.FaultLex, 4)
	fails(t, "-18446744073709551616", api.FaultLex, 1)
	fails(t, "1 18446744073709551616x", api.FaultLex, 2)
}

func TestByteThatBeginsNoWord(t *testing.T) {
	begins := "abcdefghijklmnopqrstuvwxyzABCDEFGHIJKLMNOPQRSTUVWXYZ_0123456789 \t\n\r#(){}[],;:=<>+-*/%&|^!~"
	for c := range 256 {
		s := string([]byte{byte(c)})
		if strings.Contains(begins, s) {
			tokens(t, s)
			continue
		}
		fails(t, s, api.FaultLex, 0)
		fails(t, "ab "+s, api.FaultLex, 3)
		fails(t, "ab"+s+"cd", api.FaultLex, 2)
		fails(t, "12"+s, api.FaultLex, 2)
		fails(t, "<"+s, api.FaultLex, 1)
		fails(t, "# "+s+"\n\n"+s, api.FaultLex, 5)
		has(t, "#"+s)
	}
	fails(t, "a.b", api.FaultLex, 1)
	fails(t, "\"a\"", api.FaultLex, 0)
	fails(t, "é", api.FaultLex, 0)
	fails(t, "a\u00a0b", api.FaultLex, 1)
	fails(t, "\v", api.FaultLex, 0)
	fails(t, "\f", api.FaultLex, 0)
}

func TestFirstFault(t *testing.T) {
	fails(t, "a $ 18446744073709551616", api.FaultLex, 2)
	fails(t, "a 18446744073709551616 $", api.FaultLex, 2)
	fails(t, "18446744073709551616$", api.FaultLex, 0)
	fails(t, "a ? @", api.FaultLex, 2)
}

func TestSize(t *testing.T) {
	long := strings.Repeat("a", api.MostSource)
	if l := tokens(t, long); len(l) != 2 || l[0].S != long || l[1].At != api.MostSource {
		t.Error("a text of just as many bytes", len(l))
	}
	if l := tokens(t, strings.Repeat("+", api.MostSource)); len(l) != api.MostSource+1 {
		t.Error("as many signs", len(l))
	}
	tokens(t, strings.Repeat(" ", api.MostSource))
	fails(t, long[1:]+"$", api.FaultLex, api.MostSource-1)
	fails(t, long+"a", api.FaultSize, api.MostSource)
	fails(t, long+" ", api.FaultSize, api.MostSource)
	fails(t, long+"\x00", api.FaultSize, api.MostSource)
	fails(t, "$"+long, api.FaultSize, api.MostSource)
	fails(t, "18446744073709551616 "+long, api.FaultSize, api.MostSource)
	fails(t, "#"+long+long, api.FaultSize, api.MostSource)
}

// byPattern is another reading of the chapter: by patterns, the leftmost of which that fits is it.
func byPattern(s string) ([]api.Token, api.Fault) {
	pattern := regexp.MustCompile(`^(?:([ \t\r\n]+|#[^\n]*)|([a-zA-Z_][a-zA-Z_0-9]*)|([0-9]+)|(>>>|<<|>>|<=|>=|==|!=|&&|\|\||[(){}\[\],;:=<>+\-*/%&|^!~]))`)
	kept := strings.Fields(keptNames)
	var l []api.Token
	for at := 0; at < len(s); {
		m := pattern.FindStringSubmatch(s[at:])
		if m == nil {
			return nil, api.Fault{Kind: api.FaultLex, At: at}
		}
		token := api.Token{At: at, S: m[0]}
		switch {
		case slices.Contains(kept, m[2]):
			token.Kind = api.TokWord
		case m[2] != "":
			token.Kind = api.TokName
		case m[3] != "":
			n, _ := new(big.Int).SetString(m[3], 10)
			if !n.IsUint64() {
				return nil, api.Fault{Kind: api.FaultLex, At: at}
			}
			token.Kind, token.N = api.TokInt, int64(n.Uint64())
		case m[4] != "":
			token.Kind = api.TokSign
		}
		if m[1] == "" {
			l = append(l, token)
		}
		at += len(m[0])
	}
	return append(l, api.Token{At: len(s)}), api.Fault{}
}

func TestAgainstPattern(t *testing.T) {
	pieces := append(strings.Fields(keptNames+" "+allSigns), "a", "B9", "_", "0", "18446744073709551615", "9", " ", "\t", "\n", "\r", "#", "# a\n", "é")
	chance := rand.New(rand.NewSource(1))
	for range 20000 {
		var b strings.Builder
		for range chance.Intn(12) {
			b.WriteString(pieces[chance.Intn(len(pieces))])
		}
		s := b.String()
		want, wanted := byPattern(s)
		got, fault := Lex(s)
		if !slices.Equal(got, want) || fault != wanted {
			t.Fatalf("%q: %v %v, not %v %v", s, got, fault, want, wanted)
		}
	}
}

func TestPairsOfBytes(t *testing.T) {
	for a := range 128 {
		for b := range 128 {
			s := string([]byte{byte(a), byte(b)})
			want, wanted := byPattern(s)
			got, fault := Lex(s)
			if !slices.Equal(got, want) || fault != wanted {
				t.Fatalf("%q: %v %v, not %v %v", s, got, fault, want, wanted)
			}
		}
	}
}

// The rules that hold everywhere: an answer is the caller's own, and the same each time.
func TestAnswersAreOwn(t *testing.T) {
	first := tokens(t, "a + 1")
	want := slices.Clone(first)
	clear(first)
	if l := tokens(t, "a + 1"); !slices.Equal(l, want) {
		t.Error(l)
	}
}
