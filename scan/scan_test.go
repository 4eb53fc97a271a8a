package scan_test

import (
	"fmt"
	"math/rand"
	"regexp"
	"slices"
	"strings"
	"testing"
	"unicode/utf8"

	"recension/api"
	"recension/scan"
)

func ops() []string {
	return strings.Fields("( ) { } , . : := = == != < + - * ! && ||")
}

func keys() []string {
	return strings.Fields("package import var const type struct func if else for return break continue")
}

// ending are the words behind which a newline ends a statement.
func ending() []string {
	return []string{"a", "_", "Zz_9", "int", "true", "0", "12", `""`, `"a b"`, `";"`, ")", "}", "return", "break", "continue"}
}

// open are the words behind which it doesn't.
func open() []string {
	list := []string{";"}
	for _, s := range slices.Concat(ops(), keys()) {
		if !slices.Contains(ending(), s) {
			list = append(list, s)
		}
	}
	return list
}

func tok(kind int, s string, at, line int) api.Token {
	return api.Token{Kind: kind, Text: s, At: at, Line: line}
}

func semi(at, line int) api.Token {
	return api.Token{Kind: api.TSemi, Text: ";", At: at, Line: line, Auto: true}
}

func end(at, line int) api.Token { return tok(api.TEnd, "", at, line) }

// kindOf is the kind of a word that stands alone.
func kindOf(s string) int {
	switch {
	case s == ";":
		return api.TSemi
	case slices.Contains(ops(), s):
		return api.TOp
	case slices.Contains(keys(), s):
		return api.TKey
	case s[0] == '"':
		return api.TString
	case s[0] >= '0' && s[0] <= '9':
		return api.TInt
	}
	return api.TName
}

// short keeps what a fault tells readable.
func short(s string) string {
	if len(s) > 80 {
		return fmt.Sprintf("%q.. (%d bytes)", s[:80], len(s))
	}
	return fmt.Sprintf("%q", s)
}

func wantTokens(t *testing.T, s string, want ...api.Token) []api.Comment {
	t.Helper()
	got, comments, at := scan.Scan(s)
	if at != -1 {
		t.Errorf("P6.1: %s has the fault %d", short(s), at)
		return nil
	}
	if !slices.Equal(got, want) {
		t.Errorf("P6.1: %s has the tokens\n%#v, not\n%#v", short(s), got, want)
	}
	return comments
}

func wantComments(t *testing.T, s string, want ...api.Comment) {
	t.Helper()
	_, got, at := scan.Scan(s)
	if at != -1 {
		t.Errorf("P6.1: %s has the fault %d", short(s), at)
		return
	}
	if !slices.Equal(got, want) {
		t.Errorf("P6.1: %s has the comments\n%#v, not\n%#v", short(s), got, want)
	}
}

func wantFault(t *testing.T, s string, want int) {
	t.Helper()
	tokens, comments, at := scan.Scan(s)
	if at != want {
		t.Errorf("P6.1: %s has the fault %d, not %d", short(s), at, want)
	}
	if at >= 0 && (tokens != nil || comments != nil) {
		t.Errorf("P0.2: %s has a fault, and %d tokens and %d comments", short(s), len(tokens), len(comments))
	}
}

func TestEmpty(t *testing.T) {
	if c := wantTokens(t, "", end(0, 1)); len(c) != 0 {
		t.Errorf("P6.1: the empty text has comments: %#v", c)
	}
	wantTokens(t, " ", end(1, 1))
	wantTokens(t, "\t", end(1, 1))
	wantTokens(t, "\n", end(1, 2))
	wantTokens(t, "\n\n \t\n", end(5, 4))
}

// TestWords takes each word alone: one token of its kind, with a semicolon behind it where one is due.
func TestWords(t *testing.T) {
	if len(ops()) != 18 || len(keys()) != 13 {
		t.Fatal("the chapters have eighteen operators and thirteen keys")
	}
	for _, s := range ending() {
		wantTokens(t, s, tok(kindOf(s), s, 0, 1), semi(len(s), 1), end(len(s), 1))
	}
	for _, s := range open() {
		wantTokens(t, s, tok(kindOf(s), s, 0, 1), end(len(s), 1))
	}
}

// TestClosing takes what may end a statement behind each word: a newline, a comment, the end, each with blanks ahead.
func TestClosing(t *testing.T) {
	for _, w := range slices.Concat(ending(), open()) {
		ends := slices.Contains(ending(), w)
		for _, blank := range []string{"", " ", "\t", " \t  "} {
			n := len(w) + len(blank)
			for behind, last := range map[string]api.Token{
				"":             end(n, 1),
				"\n":           end(n+1, 2),
				"\n\n":         end(n+2, 3),
				"//x":          end(n+3, 1),
				"// x\n":       end(n+5, 2),
				"//\n//y\n":    end(n+7, 3),
				"\n \t//y\n\n": end(n+8, 4),
			} {
				want := []api.Token{tok(kindOf(w), w, 0, 1)}
				if ends {
					want = append(want, semi(n, 1))
				}
				for _, c := range wantTokens(t, w+blank+behind, append(want, last)...) {
					if c.Next != len(want) {
						t.Errorf("P6.1: %q: a comment's Next is %d, not %d", w+blank+behind, c.Next, len(want))
					}
				}
			}
		}
	}
}

func TestNoClosing(t *testing.T) {
	wantTokens(t, "a b", tok(api.TName, "a", 0, 1), tok(api.TName, "b", 2, 1), semi(3, 1), end(3, 1))
	wantTokens(t, "a;", tok(api.TName, "a", 0, 1), tok(api.TSemi, ";", 1, 1), end(2, 1))
	wantTokens(t, "a;\n//x", tok(api.TName, "a", 0, 1), tok(api.TSemi, ";", 1, 1), end(6, 2))
	wantTokens(t, "a\n;\n;;", tok(api.TName, "a", 0, 1), semi(1, 1), tok(api.TSemi, ";", 2, 2), tok(api.TSemi, ";", 4, 3), tok(api.TSemi, ";", 5, 3), end(6, 3))
	wantTokens(t, "a +\nb", tok(api.TName, "a", 0, 1), tok(api.TOp, "+", 2, 1), tok(api.TName, "b", 4, 2), semi(5, 2), end(5, 2))
}

// TestPairs takes two operators next to one another: the longest that may be is taken first.
func TestPairs(t *testing.T) {
	for _, a := range ops() {
		for _, b := range ops() {
			s := a + b
			var want []api.Token
			for at := 0; at < len(s); {
				n := 1
				if at+2 <= len(s) && slices.Contains(ops(), s[at:at+2]) {
					n = 2
				}
				want = append(want, tok(api.TOp, s[at:at+n], at, 1))
				at += n
			}
			if last := want[len(want)-1].Text; last == ")" || last == "}" {
				want = append(want, semi(len(s), 1))
			}
			wantTokens(t, s, append(want, end(len(s), 1))...)
		}
	}
	wantTokens(t, ": =", tok(api.TOp, ":", 0, 1), tok(api.TOp, "=", 2, 1), end(3, 1))
	wantTokens(t, ":==", tok(api.TOp, ":=", 0, 1), tok(api.TOp, "=", 2, 1), end(3, 1))
	wantTokens(t, "===", tok(api.TOp, "==", 0, 1), tok(api.TOp, "=", 2, 1), end(3, 1))
	wantTokens(t, "= =", tok(api.TOp, "=", 0, 1), tok(api.TOp, "=", 2, 1), end(3, 1))
	wantTokens(t, "!!=", tok(api.TOp, "!", 0, 1), tok(api.TOp, "!=", 1, 1), end(3, 1))
	wantTokens(t, "&&&&", tok(api.TOp, "&&", 0, 1), tok(api.TOp, "&&", 2, 1), end(4, 1))
	wantTokens(t, "<-", tok(api.TOp, "<", 0, 1), tok(api.TOp, "-", 1, 1), end(2, 1))
	wantTokens(t, "++", tok(api.TOp, "+", 0, 1), tok(api.TOp, "+", 1, 1), end(2, 1))
	wantFault(t, "&", 0)
	wantFault(t, "|", 0)
	wantFault(t, "&&&", 2)
	wantFault(t, "|||", 2)
	wantFault(t, "& &", 0)
	wantFault(t, "&|", 0)
	wantFault(t, "<>", 1)
	wantFault(t, "a>=b", 1)
	wantFault(t, "a/b", 1)
	wantFault(t, "/ /", 0)
	wantFault(t, "/", 0)
	wantFault(t, "/*x*/", 0)
}

// TestBytes takes each byte alone and behind a word: what begins no token is a fault at its place.
func TestBytes(t *testing.T) {
	const begins = "abcdefghijklmnopqrstuvwxyzABCDEFGHIJKLMNOPQRSTUVWXYZ_0123456789(){},.:=<+-*!; \t\n"
	for i := range 256 {
		c := string([]byte{byte(i)})
		fault := 0
		if strings.Contains(begins, c) {
			fault = -1
		}
		wantFault(t, c, fault)
		wantFault(t, c+" ", fault)
		if fault == 0 {
			fault = 2
		}
		wantFault(t, "a "+c, fault)
		wantFault(t, "a\n"+c+" b", fault)
	}
}

func TestNames(t *testing.T) {
	n24 := "aZ_" + strings.Repeat("x9", 10) + "_"
	for _, s := range []string{"a", "_", "__", "A1", "zZ", "_9", "a_b_c", "x0y", n24, strings.Repeat("_", 24), "Az09_"} {
		wantTokens(t, s, tok(api.TName, s, 0, 1), semi(len(s), 1), end(len(s), 1))
		wantTokens(t, "("+s+")", tok(api.TOp, "(", 0, 1), tok(api.TName, s, 1, 1), tok(api.TOp, ")", 1+len(s), 1), semi(2+len(s), 1), end(2+len(s), 1))
	}
	wantFault(t, n24+"a", 0)
	wantFault(t, n24+"9", 0)
	wantFault(t, n24+"_", 0)
	wantFault(t, " "+n24+"a", 1)
	wantFault(t, "b\n"+strings.Repeat("func", 7), 2)
	wantFault(t, n24+"é", 24)
	for _, k := range keys() {
		for _, s := range []string{k + "a", k + "_", k + "0", "a" + k, "_" + k, k + k, strings.ToUpper(k), k[1:], k[:len(k)-1]} {
			wantTokens(t, s, tok(api.TName, s, 0, 1), semi(len(s), 1), end(len(s), 1))
		}
		l, _, _ := scan.Scan(k + "(")
		if len(l) != 3 || l[0] != tok(api.TKey, k, 0, 1) {
			t.Errorf("P6.1: %q ahead of a sign is no key: %#v", k, l)
		}
	}
	for _, s := range []string{"int", "string", "bool", "true", "false", "nil", "range", "map"} {
		wantTokens(t, s, tok(api.TName, s, 0, 1), semi(len(s), 1), end(len(s), 1))
	}
}

func TestNumbers(t *testing.T) {
	for _, s := range []string{"0", "1", "9", "10", "1000000", "999999999999", "123456789012"} {
		wantTokens(t, s, tok(api.TInt, s, 0, 1), semi(len(s), 1), end(len(s), 1))
		wantTokens(t, s+".", tok(api.TInt, s, 0, 1), tok(api.TOp, ".", len(s), 1), end(len(s)+1, 1))
		wantTokens(t, s+" a", tok(api.TInt, s, 0, 1), tok(api.TName, "a", len(s)+1, 1), semi(len(s)+2, 1), end(len(s)+2, 1))
		for _, behind := range []string{"a", "z", "A", "Z", "_", "x1", "if"} {
			wantFault(t, s+behind, 0)
			wantFault(t, "-"+s+behind, 1)
		}
		wantFault(t, s+"é", len(s))
		wantFault(t, s+"@", len(s))
		wantTokens(t, s+`""`, tok(api.TInt, s, 0, 1), tok(api.TString, `""`, len(s), 1), semi(len(s)+2, 1), end(len(s)+2, 1))
	}
	for _, s := range []string{"00", "01", "09", "000", "0x", "0x1", "0_1", "0b", "1234567890123", "1000000000000", "000000000000", "012345678901", strings.Repeat("1", 1000)} {
		wantFault(t, s, 0)
		wantFault(t, "a "+s, 2)
		wantFault(t, "\n\n"+s+"\n", 2)
	}
	wantTokens(t, "0 0", tok(api.TInt, "0", 0, 1), tok(api.TInt, "0", 2, 1), semi(3, 1), end(3, 1))
	wantTokens(t, "a01", tok(api.TName, "a01", 0, 1), semi(3, 1), end(3, 1))
	wantTokens(t, "0.0", tok(api.TInt, "0", 0, 1), tok(api.TOp, ".", 1, 1), tok(api.TInt, "0", 2, 1), semi(3, 1), end(3, 1))
	wantFault(t, "0.01", 2)
}

func TestStrings(t *testing.T) {
	for _, s := range []string{`""`, `" "`, `"a"`, `"//"`, `"// x"`, `"é☺"`, "\"\t\"", `";"`, `"'"`, `"\"`, `"&>/"`, `"01 1a"`, "\"\uFFFD\"", `"` + strings.Repeat("n", 900) + `"`} {
		wantTokens(t, s, tok(api.TString, s, 0, 1), semi(len(s), 1), end(len(s), 1))
		wantTokens(t, s+s, tok(api.TString, s, 0, 1), tok(api.TString, s, len(s), 1), semi(2*len(s), 1), end(2*len(s), 1))
		wantTokens(t, "a"+s+"+", tok(api.TName, "a", 0, 1), tok(api.TString, s, 1, 1), tok(api.TOp, "+", 1+len(s), 1), end(2+len(s), 1))
		wantFault(t, s[:len(s)-1], 0)
		wantFault(t, s[:len(s)-1]+"\n"+`"`, 0)
		wantFault(t, s+`"`, len(s))
		wantFault(t, "a\n"+s+"\n \""+"b\n\"", len(s)+4)
	}
	wantFault(t, `"\""`, 3)
	wantFault(t, "\"\n", 0)
	wantFault(t, "\"\n\"", 0)
	wantFault(t, "`a`", 0)
	wantFault(t, "'a'", 0)
}

func TestComments(t *testing.T) {
	wantComments(t, "a - b")
	wantComments(t, `"//"`)
	wantComments(t, "//", api.Comment{Text: "//", Line: 1})
	wantComments(t, "///", api.Comment{Text: "///", Line: 1})
	wantComments(t, "// x", api.Comment{Text: "// x", Line: 1})
	wantComments(t, "// x \t\n", api.Comment{Text: "// x \t", Line: 1})
	wantComments(t, "//é \" // y\n", api.Comment{Text: "//é \" // y", Line: 1})
	wantComments(t, "//x\n//y", api.Comment{Text: "//x", Line: 1}, api.Comment{Text: "//y", At: 4, Line: 2})
	wantComments(t, "a//x\n//y\n\nb //z", api.Comment{Text: "//x", At: 1, Line: 1, Next: 2}, api.Comment{Text: "//y", At: 5, Line: 2, Next: 2}, api.Comment{Text: "//z", At: 12, Line: 4, Next: 4})
	wantComments(t, "a +//x\n//y\nb", api.Comment{Text: "//x", At: 3, Line: 1, Next: 2}, api.Comment{Text: "//y", At: 7, Line: 2, Next: 2})
	wantComments(t, "a; //x\n", api.Comment{Text: "//x", At: 3, Line: 1, Next: 2})
	wantComments(t, "(//x", api.Comment{Text: "//x", At: 1, Line: 1, Next: 1})
	wantComments(t, ")//x", api.Comment{Text: "//x", At: 1, Line: 1, Next: 2})
	wantComments(t, "\n\n\t//x\n\n \n//y\na", api.Comment{Text: "//x", At: 3, Line: 3}, api.Comment{Text: "//y", At: 10, Line: 6})
	wantTokens(t, "//a b\nc", tok(api.TName, "c", 6, 2), semi(7, 2), end(7, 2))
	wantTokens(t, "//if", end(4, 1))
}

func TestLines(t *testing.T) {
	wantTokens(t, "\n \tif x\t{\n\n\t\ty := \"é\" // z\n  } \n\n",
		tok(api.TKey, "if", 3, 2), tok(api.TName, "x", 6, 2), tok(api.TOp, "{", 8, 2),
		tok(api.TName, "y", 13, 4), tok(api.TOp, ":=", 15, 4), tok(api.TString, `"é"`, 18, 4), semi(23, 4),
		tok(api.TOp, "}", 30, 5), semi(32, 5), end(34, 7))
	wantComments(t, "\n \tif x\t{\n\n\t\ty := \"é\" // z\n  } \n\n", api.Comment{Text: "// z", At: 23, Line: 4, Next: 7})
}

// TestFaults takes two faults in one text: the least byte's is told.
func TestFaults(t *testing.T) {
	long := strings.Repeat("n", 25)
	type fault struct {
		text string
		at   int
	}
	faults := []fault{{">", 0}, {"a&", 1}, {"\x00", 0}, {"\xff", 0}, {"\x7f", 0}, {"\r", 0}, {"é", 0}, {"\"\xc3\"", 1}, {"\"a\x01\"", 2}, {"//\xe2\x98", 2}, {"// \r", 3}, {"//\x7f", 2},
		{"\"x\n", 0}, {long, 0}, {"1234567890123", 0}, {"01", 0}, {"1a", 0}, {"1_", 0}, {"\"\xff\n", 0}, {"\xe2\x98", 0}, {"\xed\xa0\x80", 0}, {"\xc0\x80", 0}}
	for _, a := range faults {
		wantFault(t, a.text, a.at)
		wantFault(t, "x \n"+a.text, a.at+3)
		for _, b := range faults {
			wantFault(t, a.text+"\n"+b.text, a.at)
			wantFault(t, "b:=\"s\" // t\n"+a.text+"\n a "+b.text, a.at+12)
		}
	}
	wantFault(t, "\"a\xff", 0)
	wantFault(t, "\"a\xff\n\"", 0)
	wantFault(t, "\"a\xff\"", 2)
	wantFault(t, "x \"a\" \"\x00\" \"b", 7)
	wantFault(t, "x \"a\" \"b \x00", 6)
	wantFault(t, "// \xff\n>", 3)
	wantFault(t, "> // \xff", 0)
	wantFault(t, "1a\xff", 0)
	wantFault(t, "1\xff", 1)
	wantFault(t, "a\xff", 1)
	wantFault(t, long+"\xff", 0)
}

// TestLong goes around the limit of 2,000 bytes.
func TestLong(t *testing.T) {
	pad := func(n int) string { return strings.Repeat(" ", n) }
	wantTokens(t, pad(2000), end(2000, 1))
	wantTokens(t, pad(1999)+"a", tok(api.TName, "a", 1999, 1), semi(2000, 1), end(2000, 1))
	wantTokens(t, pad(1999)+"(", tok(api.TOp, "(", 1999, 1), end(2000, 1))
	wantTokens(t, strings.Repeat("\n", 2000), end(2000, 2001))
	wantTokens(t, "//"+strings.Repeat("é", 999), end(2000, 1))
	wantComments(t, pad(1998)+"//", api.Comment{Text: "//", At: 1998, Line: 1})
	for _, tail := range []string{" ", "a", ">", "\xff", "\x00", "\"", "é", "\n", "//", "1a", "00", strings.Repeat("n", 25), strings.Repeat(" ", 5000)} {
		wantFault(t, pad(2000)+tail, 2000)
		wantFault(t, pad(1999)+">"+tail, 1999)
		wantFault(t, "\xff"+pad(1999)+tail, 0)
		wantFault(t, pad(1000)+"\"\x00\""+pad(997)+tail, 1001)
	}
	for s, want := range map[string]int{
		pad(2001):                                        2000,
		pad(1<<20) + ">":                                 2000,
		pad(1990) + strings.Repeat("n", 24):              2000,
		pad(1990) + strings.Repeat("n", 25):              1990,
		pad(1990) + "123456789012":                       2000,
		pad(1990) + "123456789012a":                      1990,
		pad(1990) + "1234567890123":                      1990,
		pad(1990) + `"0123456789"`:                       2000,
		pad(1990) + `"0123456789"` + ">":                 2000,
		pad(1990) + `"0123456789`:                        1990,
		pad(1990) + "\"0123456789\n\"":                   1990,
		pad(1990) + "\"0123456789\xff\"":                 2000,
		pad(1990) + "\"0123\xff56789\"":                  1995,
		pad(1990) + "//0123456789":                       2000,
		pad(1990) + "//0123456789\n":                     2000,
		pad(1990) + "//0123456789\n>":                    2000,
		pad(1990) + "//01234\xff56789":                   1997,
		pad(1990) + "//012345678\xff":                    2000,
		pad(1999) + "//":                                 2000,
		pad(1999) + "/":                                  1999,
		pad(1999) + "/ ":                                 1999,
		pad(1999) + "&&":                                 2000,
		pad(1999) + "&":                                  1999,
		pad(1999) + "& ":                                 1999,
		pad(1999) + `""`:                                 2000,
		pad(1999) + `"`:                                  1999,
		pad(1999) + "0":                                  -1,
		pad(1999) + "01":                                 1999,
		pad(1999) + "0a":                                 1999,
		pad(1999) + "0.":                                 2000,
		pad(2000) + "0a":                                 2000,
		"//" + strings.Repeat("é", 998) + "n☺":           2000,
		"//" + strings.Repeat("é", 998) + "n\xe2\x98":    1999,
		"//" + strings.Repeat("é", 998) + "n\xe2\x98nnn": 1999,
		"\"" + strings.Repeat("é", 999) + "☺\"":          2000,
		"\"" + strings.Repeat("é", 999) + "☺":            0,
		"\"" + strings.Repeat("x", 1<<20):                0,
		"\"" + strings.Repeat("x", 1<<20) + "\"":         2000,
		"\"" + strings.Repeat("x", 1<<20) + "\n":         0,
		"//" + strings.Repeat("x", 1<<20):                2000,
		strings.Repeat("x", 1<<20):                       0,
		strings.Repeat("1", 1<<20):                       0,
		strings.Repeat("a;\n", 1<<20):                    2000,
		strings.Repeat("\"\" ", 1<<20):                   2000,
		strings.Repeat("//\n", 1<<20):                    2000,
		strings.Repeat("(", 1<<20):                       2000,
		strings.Repeat("a", 24) + pad(1<<20) + "\x00":    2000,
	} {
		wantFault(t, s, want)
	}
}

// TestOwn writes into what one call answered, spare room too, and asks again.
func TestOwn(t *testing.T) {
	const s = "a := \"b\" // c\n//d\nif x < 1 { return }\n"
	tokens, comments, _ := scan.Scan(s)
	wantT, wantC := slices.Clone(tokens), slices.Clone(comments)
	more, moreC, _ := scan.Scan(s)
	all, allC := tokens[:cap(tokens)], comments[:cap(comments)]
	for i := range all {
		all[i] = tok(99, "z", -1, -1)
	}
	for i := range allC {
		allC[i] = api.Comment{Text: "z", At: -1, Line: -1, Next: -1}
	}
	again, againC, at := scan.Scan(s)
	if at != -1 || !slices.Equal(more, wantT) || !slices.Equal(again, wantT) {
		t.Errorf("P0.3: the tokens of %q hang on another call's answer", s)
	}
	if !slices.Equal(moreC, wantC) || !slices.Equal(againC, wantC) {
		t.Errorf("P0.3: the comments of %q hang on another call's answer", s)
	}
}

// words tells the pieces of a text as the chapter lists them, by a means that the program may not use.
var words = regexp.MustCompile(`^(?:([ \t]+)|(\n)|(//[^\n]*)|([A-Za-z_][A-Za-z0-9_]*)|([0-9]+)|("[^"\n]*")|(;)|(&&|\|\||:=|==|!=|[(){},.:=<+*!-]))`)

// faultsOf lists every fault of a text.
func faultsOf(s string) []int {
	var list []int
	for i, r := range s {
		_, n := utf8.DecodeRuneInString(s[i:])
		if r < 32 && r != 9 && r != 10 || r == 127 || r == utf8.RuneError && n == 1 {
			list = append(list, i)
		}
	}
	if len(s) > 2000 {
		list = append(list, 2000)
	}
	for at := 0; at < len(s); {
		m := words.FindStringSubmatch(s[at:])
		if m == nil {
			return append(list, at)
		}
		behind := s[at+len(m[0]):]
		digits := m[5]
		tight := behind != "" && strings.Contains("ABCDEFGHIJKLMNOPQRSTUVWXYZ_abcdefghijklmnopqrstuvwxyz", behind[:1])
		if len(m[4]) > 24 || len(digits) > 12 || len(digits) > 1 && digits[0] == '0' || digits != "" && tight {
			return append(list, at)
		}
		at += len(m[0])
	}
	return list
}

// slow is Scan as the chapter's sentences tell it.
func slow(s string) ([]api.Token, []api.Comment, int) {
	if list := faultsOf(s); len(list) > 0 {
		return nil, nil, slices.Min(list)
	}
	var tokens []api.Token
	var comments []api.Comment
	lineOf := func(at int) int { return 1 + strings.Count(s[:at], "\n") }
	ends := func(at int) {
		if len(tokens) == 0 {
			return
		}
		last := tokens[len(tokens)-1]
		switch last.Kind {
		case api.TName, api.TInt, api.TString:
		default:
			if !slices.Contains(strings.Fields(") } return break continue"), last.Text) {
				return
			}
		}
		tokens = append(tokens, semi(at, lineOf(at)))
	}
	for at := 0; at < len(s); {
		m := words.FindStringSubmatch(s[at:])
		switch {
		case m[1] != "":
		case m[2] != "":
			ends(at)
		case m[3] != "":
			ends(at)
			comments = append(comments, api.Comment{Text: m[3], At: at, Line: lineOf(at), Next: len(tokens)})
		default:
			tokens = append(tokens, tok(kindOf(m[0]), m[0], at, lineOf(at)))
		}
		at += len(m[0])
	}
	ends(len(s))
	return append(tokens, end(len(s), lineOf(len(s)))), comments, -1
}

func same(t *testing.T, s string) {
	t.Helper()
	tokens, comments, at := scan.Scan(s)
	wantT, wantC, want := slow(s)
	if at != want || !slices.Equal(tokens, wantT) || !slices.Equal(comments, wantC) {
		t.Errorf("P6.1: %s is\n%#v, %#v, %d, not\n%#v, %#v, %d", short(s), tokens, comments, at, wantT, wantC, want)
	}
	again, againC, at2 := scan.Scan(s)
	if at2 != at || !slices.Equal(again, tokens) || !slices.Equal(againC, comments) {
		t.Errorf("P0.5: %s is another thing the second time", short(s))
	}
}

// pieces are what the mixed texts are made of.
func pieces() []string {
	return []string{"a", "return", "if", "0", "1", "_", "\"", "\"s\"", ";", "\n", " ", "//", "/", "&", "=", ":", "|", "}", "(", "\xff", "é"}
}

// TestMixed holds every text of up to four pieces against the slow way.
func TestMixed(t *testing.T) {
	texts := []string{""}
	for range 4 {
		var longer []string
		for _, s := range texts {
			for _, p := range pieces() {
				longer = append(longer, s+p)
			}
		}
		for _, s := range longer {
			same(t, s)
		}
		if t.Failed() {
			return
		}
		texts = longer
	}
}

// TestProgram cuts a program off at each byte, and puts each byte in the place of each.
func TestProgram(t *testing.T) {
	const s = "package p\n\nimport \"q\"\n\nvar x int = 10 // ten\n\nfunc f(a, b int) bool {\n\tfor a < b && !g(a) {\n\t\ta = a + 1*-2\n\t\tif a == b || a != q.z { break }\n\t}\n\t// done\n\treturn a.c\n}\n"
	for i := range len(s) + 1 {
		same(t, s[:i])
		same(t, s[i:])
	}
	for i := range len(s) {
		for c := range 256 {
			same(t, s[:i]+string([]byte{byte(c)})+s[i+1:])
		}
		if t.Failed() {
			return
		}
	}
}

// TestMany strews pieces until the texts are about as long as may be.
func TestMany(t *testing.T) {
	r := rand.New(rand.NewSource(6))
	list := slices.Concat(ops(), keys(), ending(), []string{"\n", "\n", "//x\n", "// y z\n", " ", "\t", "\n\n"})
	for range 300 {
		var b strings.Builder
		for limit := 1 + r.Intn(2100); b.Len() < limit; {
			b.WriteString(list[r.Intn(len(list))])
			if r.Intn(10) > 0 {
				b.WriteString(" ")
			}
		}
		same(t, b.String())
		if t.Failed() {
			return
		}
	}
}

func FuzzScan(f *testing.F) {
	for _, s := range slices.Concat(ops(), keys(), ending(), pieces()) {
		f.Add(s)
	}
	f.Fuzz(func(t *testing.T, s string) { same(t, s) })
}
