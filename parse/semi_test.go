package parse_test

import (
	"slices"
	"strings"
	"testing"

	"recension/scan"
)

// TestSemicolonsWrittenOrNot has the same tokens in each row, but for who wrote the semicolons.
func TestSemicolonsWrittenOrNot(t *testing.T) {
	for _, s := range []string{"package a", "package a;", "package a\n", "package a;\n", "package a // a comment", "package a; // a comment\n\n"} {
		wantTree(t, s, "file0(package1)")
	}
	for _, s := range []string{"package a;import b;import c;", "package a\nimport b\nimport c", "package a\nimport b;import c", "package a;import b // b\nimport c\n"} {
		wantTree(t, s, "file0(package1 import4 import7)")
	}
	for _, s := range []string{"package a;var x T;const c = 1;type T struct {};func f() {};", "package a\nvar x T\nconst c = 1\ntype T struct {}\nfunc f() {}", "package a\nvar x T;\nconst c = 1;\ntype T struct {\n};\nfunc f() {\n}\n"} {
		wantTree(t, s, "file0(package1 var4(type5) const8(int10) struct13 func19(block22))")
	}
	for _, s := range []string{"x;y;", "x\ny\n", "x;\ny;\n", "x // x\ny // y\n", "\nx\ny;"} {
		wantBody(t, s, "do8(name8) do10(name10)")
	}
	for _, s := range []string{"return;break;continue;", "return\nbreak\ncontinue\n", "return;break\ncontinue;"} {
		wantBody(t, s, "return8 break10 continue12")
	}
	for _, s := range []string{"if x {};for x {};{};f();", "if x {\n}\nfor x {\n}\n{\n}\nf()\n"} {
		wantBody(t, s, "if8(name9 block10) for13(name14 block15) block18 do21(call22(name21))")
	}
	for _, s := range []string{"type T struct {x int;y q.T;};", "type T struct {x int\ny q.T\n}", "type T struct {\nx int\n\ny q.T\n\n}\n"} {
		wantTree(t, "package a;"+s, "file0(package1 struct4(field7(type8) field10(type13(name11))))")
	}
}

// TestSemicolonsLeftOut has none ahead of a `}`, or one.
func TestSemicolonsLeftOut(t *testing.T) {
	for _, s := range []string{"{x}", "{x;}", "{x\n}", "{\nx}"} {
		wantBody(t, s, "block8(do9(name9))")
	}
	for _, s := range []string{"x", "x;", "x\n"} {
		wantBody(t, s, "do8(name8)")
	}
	wantBody(t, "{x};y", "block8(do9(name9)) do12(name12)")
	wantBody(t, "{x;};y", "block8(do9(name9)) do13(name13)")
	wantBody(t, "{x\n};y", "block8(do9(name9)) do13(name13)")
	wantBody(t, "{return};y", "block8(return9) do12(name12)")
	wantBody(t, "{break L};y", "block8(break9(label10)) do13(name13)")
	wantBody(t, "{var x T};y", "block8(var10(type11)) do14(name14)")
	wantBody(t, "{const x = 1};y", "block8(const10(int12)) do15(name15)")
	wantBody(t, "{x := 1};y", "block8(define9(int11)) do14(name14)")
	wantBody(t, "{x = 1};y", "block8(assign10(name9 int11)) do14(name14)")
	wantBody(t, "{{x}};y", "block8(block9(do10(name10))) do14(name14)")
	wantBody(t, "if x {y} else {z};y", "if8(name9 block10(do11(name11)) block14(do15(name15))) do18(name18)")
	wantBody(t, "if x {if y {z}};y", "if8(name9 block10(if11(name12 block13(do14(name14))))) do18(name18)")
	wantBody(t, "for x {L: for y {z}};y", "for8(name9 block10(label11(for13(name14 block15(do16(name16)))))) do20(name20)")
	wantTree(t, "package a;type T struct {x int};var y T", "file0(package1 struct4(field7(type8)) var12(type13))")
	wantTree(t, "package a;type T struct {x int;};var y T", "file0(package1 struct4(field7(type8)) var13(type14))")
	wantTree(t, "package a;type T struct {x q.T};var y T", "file0(package1 struct4(field7(type10(name8))) var14(type15))")
	for _, s := range []string{"package a;var x T;func f() {x} @var y T", "package a;type T struct {x int} @var y T", "package a;func f() {{x} @y}", "package a;func f() {if x {} @y}", "package a;func f() {x}@}"} {
		wantFault(t, s)
	}
}

// TestSemicolonsThatSayNothing stand wherever the chapter lets them.
func TestSemicolonsThatSayNothing(t *testing.T) {
	wantTree(t, "package a;;", "file0(package1)")
	wantTree(t, "package a;;;;;", "file0(package1)")
	wantTree(t, "package a\n;\n;", "file0(package1)")
	wantTree(t, "package a;;import b", "file0(package1 import5)")
	wantTree(t, "package a\n;import b", "file0(package1 import5)")
	wantTree(t, "package a;;;;import b", "file0(package1 import7)")
	wantTree(t, "package a;import b;;", "file0(package1 import4)")
	wantTree(t, "package a;import b;;import c;;;import d", "file0(package1 import4 import8 import13)")
	wantTree(t, "package a;import b;;var x T", "file0(package1 import4 var8(type9))")
	slow := newSlow()
	for _, decl := range []string{"var x T", "const x = y", "type x struct {}", "func x() {}"} {
		for _, text := range []string{"package a;;?", "package a;?;;", "package a;?;;?", "package a;?;;;?;;;?;;;", "package a;;import b;;?;;var v T", "package a\n\n;\n?\n;\n;\n?\n"} {
			if text = strings.ReplaceAll(text, "?", decl); !slow.sameText(t, text) {
				t.Errorf("P11.1: %q has a fault", text)
			}
		}
	}
	wantTree(t, "package a;;var x T;;;var y T;;", "file0(package1 var5(type6) var11(type12))")
	wantBody(t, ";", "")
	wantBody(t, ";;;", "")
	wantBody(t, ";x", "do9(name9)")
	wantBody(t, ";;x;;;y;;", "do10(name10) do14(name14)")
	wantBody(t, "\n;\nx\n;\n", "do9(name9)")
	wantBody(t, "{;}", "block8")
	wantBody(t, "{;;};;{;x;}", "block8 block14(do16(name16))")
	wantBody(t, "if x {;} else {;;}", "if8(name9 block10 block14)")
	wantBody(t, "if x {;y} else if z {;;y;;z}", "if8(name9 block10(do12(name12)) if15(name16 block17(do20(name20) do23(name23))))")
	wantBody(t, "for x {;break;;}", "for8(name9 block10(break12))")
	wantTree(t, "package a;type T struct {;}", "file0(package1 struct4)")
	wantTree(t, "package a;type T struct {;;;}", "file0(package1 struct4)")
	wantTree(t, "package a;type T struct {;x int}", "file0(package1 struct4(field8(type9)))")
	wantTree(t, "package a;type T struct {;;x int;;;y int;;}", "file0(package1 struct4(field9(type10) field14(type15)))")
	wantTree(t, "package a;type T struct {\n;x int\n;\ny int\n}", "file0(package1 struct4(field8(type9) field12(type13)))")
}

// TestSemicolonsAnywhere lays one to three of them, written, ahead of each token of each text: either it says nothing, or it is at fault itself.
func TestSemicolonsAnywhere(t *testing.T) {
	s := newSlow()
	nothing := 0
	for _, text := range validTexts() {
		l, _, _ := scan.Scan(text)
		for i := range l {
			for count := 1; count <= 3; count++ {
				changed := slices.Clone(l)
				for range count {
					changed = slices.Insert(changed, i, word(";"))
				}
				if _, fault := s.run(changed); fault < 0 {
					nothing++
				}
				s.same(t, changed)
			}
		}
	}
	if nothing == 0 {
		t.Error("there is no text that takes one more semicolon")
	}
}

// TestElse stands on the line of the `}`: a newline ahead of it would end the if.
func TestElse(t *testing.T) {
	wantBody(t, "if x {} else {}", "if8(name9 block10 block13)")
	wantBody(t, "if x {\n} else {\n}", "if8(name9 block10 block13)")
	wantBody(t, "if x {\n} else if y {\n} else {\n}", "if8(name9 block10 if13(name14 block15 block18))")
	wantBody(t, "if x {} else\n{}", "if8(name9 block10 block13)")
	wantBody(t, "if x {} else // why\n\nif y {}", "if8(name9 block10 if13(name14 block15))")
	wantBody(t, "if x {}; if y {} else {}", "if8(name9 block10) if13(name14 block15 block18)")
	wantBody(t, "if x {}\nif y {} else {}", "if8(name9 block10) if13(name14 block15 block18)")
	for _, s := range []string{
		"if x {}\n@else {}", "if x {\n}\n@else {\n}", "if x {} // why\n@else {}", "if x {};@else {}", "if x {}\n\n@else if y {}",
		"if x {} else if y {}\n@else {}", "if x {} else {}\n@else {}", "if x {} else {} @else {}", "@else {}", "x\n@else {}", "{} @else {}", "for x {} @else {}", "for x {}\n@else {}",
	} {
		wantFault(t, inFunc(s))
	}
}
