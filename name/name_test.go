package name_test

import (
	"slices"
	"strings"
	"testing"

	"recension/api"
	"recension/name"
)

const (
	smalls   = "abcdefghijklmnopqrstuvwxyz"
	capitals = "ABCDEFGHIJKLMNOPQRSTUVWXYZ"
	digits   = "0123456789"
)

func keys() []string {
	return strings.Fields("package import var const type struct func if else for return break continue")
}

func world() []string {
	return strings.Fields("int string bool true false")
}

// is is the chapter's sentence on Is, word for word.
func is(s string) bool {
	return len(s) >= 1 && len(s) <= 24 &&
		made(s, smalls+capitals+"_"+digits) &&
		strings.IndexByte(digits, s[0]) < 0 &&
		!slices.Contains(keys(), s)
}

// file is the chapter's sentence on File.
func file(s string) bool {
	return len(s) >= 1 && len(s) <= 16 && made(s, smalls+digits+".-_") && s[0] != '.'
}

// made says whether s has no byte but those of these.
func made(s, these string) bool {
	for _, c := range []byte(s) {
		if strings.IndexByte(these, c) < 0 {
			return false
		}
	}
	return true
}

// same holds all four calls against the chapter's sentences.
func same(t *testing.T, s string) {
	t.Helper()
	if got, want := name.Key(s), slices.Contains(keys(), s); got != want {
		t.Errorf("P4.1: Key of %.60q is %v", s, got)
	}
	if got, want := name.Is(s), is(s); got != want {
		t.Errorf("P4.1: Is of %.60q (%d bytes) is %v", s, len(s), got)
	}
	if got, want := name.World(s), slices.Index(world(), s); got != want {
		t.Errorf("P4.1: World of %.60q is %d, not %d", s, got, want)
	}
	if got, want := name.File(s), file(s); got != want {
		t.Errorf("P4.1: File of %.60q (%d bytes) is %v", s, len(s), got)
	}
}

// near is s and what is nearly s: a byte more or less at each place, another case, blanks around it.
func near(s string) []string {
	list := []string{s, strings.ToUpper(s), s + s, " " + s, s + " ", s + "\n", s + "\x00"}
	for i := range len(s) + 1 {
		for _, c := range []string{"a", "s", "_", "0", "-", s[:min(1, len(s))]} {
			list = append(list, s[:i]+c+s[i:])
		}
	}
	for i := range len(s) {
		list = append(list, s[:i]+s[i+1:], s[:i]+strings.ToUpper(s[i:i+1])+s[i+1:], s[:i])
	}
	return list
}

func TestKeys(t *testing.T) {
	if len(keys()) != 13 {
		t.Fatalf("the chapter has thirteen keys, this list %d", len(keys()))
	}
	for _, k := range keys() {
		if !name.Key(k) || name.Is(k) || name.World(k) != -1 {
			t.Errorf("P4.1: %s is a key, no name and no name of the world: Key %v, Is %v, World %d", k, name.Key(k), name.Is(k), name.World(k))
		}
		for _, s := range near(k) {
			same(t, s)
		}
	}
}

func TestNoKeys(t *testing.T) {
	goKeys := strings.Fields("case chan default defer fallthrough go goto interface map range select switch")
	for _, s := range append(goKeys, "", "nil", "iota", "any", "error", "append", "while", "package import", "ifelse") {
		if name.Key(s) {
			t.Errorf("P4.1: Key of %q, which is no key here", s)
		}
		same(t, s)
	}
	for _, s := range goKeys {
		if !name.Is(s) {
			t.Errorf("P4.1: %q, no key here, is no name", s)
		}
	}
}

func TestWorld(t *testing.T) {
	for want, w := range []string{"int", "string", "bool", "true", "false"} {
		if got := name.World(w); got != want {
			t.Errorf("P4.1: World of %s is %d, not %d", w, got, want)
		}
		if !name.Is(w) || name.Key(w) {
			t.Errorf("P4.1: %s, a name of the world, is a name and no key: Is %v, Key %v", w, name.Is(w), name.Key(w))
		}
		for _, s := range near(w) {
			same(t, s)
		}
	}
	for _, s := range append(keys(), "", "nil", "Int", "TRUE", "int64", "byte", "rune", "string ", "0", "4") {
		if got := name.World(s); got != -1 {
			t.Errorf("P4.1: World of %q is %d, not -1", s, got)
		}
	}
}

func TestLengths(t *testing.T) {
	if api.MaxIdent != 24 || api.MaxName != 16 {
		t.Fatalf("the limits are %d and %d, not 24 and 16", api.MaxIdent, api.MaxName)
	}
	for n, want := range map[int]bool{0: false, 1: true, 2: true, 23: true, 24: true, 25: false, 48: false, 280: false, 1 << 20: false} {
		for _, c := range []string{"a", "z", "A", "Z", "_"} {
			if got := name.Is(strings.Repeat(c, n)); got != want {
				t.Errorf("P4.1: Is of %d times %s is %v", n, c, got)
			}
		}
	}
	for n, want := range map[int]bool{0: false, 1: true, 2: true, 15: true, 16: true, 17: false, 24: false, 272: false, 1 << 20: false} {
		for _, c := range []string{"a", "z", "0", "9", "-", "_"} {
			if got := name.File(strings.Repeat(c, n)); got != want {
				t.Errorf("P4.1: File of %d times %s is %v", n, c, got)
			}
		}
	}
	for n := range 70 {
		for _, c := range []string{"a", "0", ".", "_", "-", "é", "\xff"} {
			same(t, strings.Repeat(c, n))
			same(t, "b"+strings.Repeat(c, n))
		}
	}
}

func TestEachByte(t *testing.T) {
	for c := range 256 {
		b := string([]byte{byte(c)})
		for _, n := range []int{1, 2, 3, 14, 22} {
			rest := strings.Repeat("x", n)
			same(t, b+rest)
			same(t, rest[:n/2]+b+rest[n/2:])
			same(t, rest+b)
		}
		same(t, b)
	}
}

func TestEachPair(t *testing.T) {
	for c := range 256 * 256 {
		same(t, string([]byte{byte(c >> 8), byte(c)}))
	}
}

func TestNamed(t *testing.T) {
	for s, want := range map[string]bool{
		"_": true, "__": true, "a": true, "Z": true, "_0": true, "a0": true, "x_y_Z9": true,
		"0": false, "0a": false, "9": false, "9_": false, "a.b": false, "a-b": false, "a b": false, "\t": false,
		"é": false, "aé": false, "\u00aa": false, "\u017f": false, "\u212a": false, "\u0410": false, "\uff21": false, "\u0661": false, "a\u0661": false,
		"\x80": false, "a\x00": false, "a\xc3": false, "\u203f": false,
	} {
		if got := name.Is(s); got != want {
			t.Errorf("P4.1: Is of %q is %v", s, got)
		}
	}
}

func TestFiles(t *testing.T) {
	for s, want := range map[string]bool{
		"a.go": true, "a.": true, "a..": true, "a.b.c": true, "-": true, "_": true, "0": true, "9.9": true, "-.": true, "_.": true, "if": true, "func": true, "true": true,
		".": false, "..": false, ".a": false, ".go": false, ".-": false,
		"A": false, "a.Go": false, "Z.go": false, "aZ": false,
		"a/b": false, "/": false, "a b": false, " a": false, "a\n": false, "a\x00": false, "a\\b": false, "a:b": false, "~": false,
		"é": false, "aé": false, "\u017f": false, "\u212a": false, "a\xff": false,
	} {
		if got := name.File(s); got != want {
			t.Errorf("P4.1: File of %q is %v", s, got)
		}
	}
}

func FuzzName(f *testing.F) {
	for _, s := range append(keys(), "", "_", "0a", "a.go", ".go", "é", strings.Repeat("n", 25)) {
		f.Add(s)
	}
	f.Fuzz(func(t *testing.T, s string) { same(t, s) })
}
