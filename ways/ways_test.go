package ways

import (
	"go/ast"
	"go/format"
	"go/parser"
	"go/token"
	"os"
	"path/filepath"
	"slices"
	"strconv"
	"strings"
	"testing"
)

// layer is what the document says of a layer's package: which packages it calls, and which of the language's ways it leans on.
type layer struct {
	name, calls, ways string
}

// built are the layers that stand by now.
var built = []layer{
	{"runes", "", "range-string range-function label array"},
	{"place", "runes", "range-string label range-function"},
	{"class", "runes", "range-string rune iota range-function"},
	{"fold", "runes class", "range-string rune array array-compared range-function label"},
	{"cluster", "runes class", "range-function range-string label closure"},
	{"pattern", "runes class", "label goto rune range-string iota range-function"},
	{"word", "runes class", "label goto iota range-function rune"},
	{"phone", "runes", "range-string rune array label range-function"},
	{"rule", "runes class phone", "label goto range-string map method-value rune"},
	{"lexicon", "runes class fold word phone rule", "map range-function variadic iota label range-string"},
	{"syllable", "phone", "closure label range-string rune iota"},
	{"line", "word lexicon syllable", "range-function closure array struct-compared"},
	{"metre", "", "label goto range-string range-function closure variadic"},
	{"scan", "line metre", "array struct-compared range-function closure label"},
	{"rhyme", "phone syllable", "range-function iota fallthrough label"},
	{"scheme", "", "label goto range-string array range-function closure"},
	{"poem", "runes place word", "range-function label range-string embedding promoted"},
	{"mould", "metre scheme", "label goto method-value range-function range-string"},
	{"check", "fold word lexicon syllable line metre scan rhyme scheme poem mould", "method-value range-function range-string closure"},
	{"count", "runes word poem", "float map range-map range-function"},
	{"concord", "runes fold word poem", "range-function map label struct-compared"},
	{"collate", "runes class fold", "map range-string range-function method-value label"},
	{"find", "runes fold phone lexicon concord", "array label interface type-switch goto range-string interface-call"},
	{"vocab", "class fold lexicon syllable rhyme collate", "closure range-function"},
	{"fill", "class lexicon line scan rhyme scheme poem mould check vocab", "closure range-function method-value label range-string"},
	{"rope", "runes place", "interface type-switch range-function array interface-call"},
	{"edit", "runes rope", "label range-string embedding promoted closure"},
	{"draft", "word edit", "array map range-function label"},
	{"witness", "fold word poem", "interface type-switch range-function closure range-string interface-call"},
	{"page", "cluster poem", "label range-function struct-compared"},
	{"chant", "lexicon line metre scan poem check", "float go channel send receive close select waitgroup method-value"},
	{"house", "word rule lexicon syllable line metre scan rhyme scheme poem mould check count concord collate find vocab fill rope edit draft witness page chant", "map method-expression function-field panic defer recover assertion range-string variadic"},
}

// library is what a package may call of the library.
const library = " bytes cmp container/heap errors iter maps math math/bits slices sort strconv strings sync sync/atomic "

// readers are what of strings reads runes, which no layer calls.
const readers = " ContainsAny ContainsFunc ContainsRune EqualFold Fields FieldsFunc FieldsFuncSeq FieldsSeq IndexAny IndexFunc IndexRune LastIndexAny LastIndexFunc Map Title ToLower ToLowerSpecial ToTitle ToTitleSpecial ToUpper ToUpperSpecial ToValidUTF8 Trim TrimFunc TrimLeft TrimLeftFunc TrimRight TrimRightFunc TrimSpace NewReader "

func TestWays(t *testing.T) {
	for _, l := range built {
		miss, err := WaysMissing("..", "canticle", []string{l.name}, strings.Fields(l.ways))
		if err != nil {
			t.Fatal(l.name, err)
		}
		if len(miss) > 0 {
			t.Errorf("%s: ways missing: %v", l.name, miss)
		}
	}
}

func TestManners(t *testing.T) {
	for _, l := range built {
		files, err := filepath.Glob(filepath.Join("..", l.name, "*.go"))
		if err != nil || len(files) == 0 {
			t.Fatal(l.name, err)
		}
		for _, f := range files {
			if strings.HasSuffix(f, "_test.go") {
				continue
			}
			manners(t, l, f)
		}
	}
}

func manners(t *testing.T, l layer, name string) {
	text, err := os.ReadFile(name)
	if err != nil {
		t.Fatal(err)
	}
	if form, err := format.Source(text); err != nil || string(form) != string(text) {
		t.Errorf("%s: not as gofmt lays it: %v", name, err)
	}
	files := token.NewFileSet()
	file, err := parser.ParseFile(files, name, text, parser.ParseComments)
	if err != nil {
		t.Fatal(err)
	}
	for _, i := range file.Imports {
		path, _ := strconv.Unquote(i.Path.Value)
		own, isOwn := strings.CutPrefix(path, "canticle/")
		if isOwn && own != "api" && !slices.Contains(strings.Fields(l.calls), own) || !isOwn && !strings.Contains(library, " "+path+" ") {
			t.Errorf("%s calls %s", name, path)
		}
	}
	for _, d := range file.Decls {
		if g, ok := d.(*ast.GenDecl); ok && g.Tok == token.VAR {
			t.Errorf("%s: a variable at package level", files.Position(g.Pos()))
		}
		if f, ok := d.(*ast.FuncDecl); ok {
			if n := files.Position(f.End()).Line - files.Position(f.Pos()).Line + 1; n > 60 {
				t.Errorf("%s: %s has %d lines", name, f.Name.Name, n)
			}
		}
	}
	ast.Inspect(file, func(n ast.Node) bool {
		switch x := n.(type) {
		case *ast.SelectorExpr:
			if p, ok := x.X.(*ast.Ident); ok && p.Name == "strings" && strings.Contains(readers, " "+x.Sel.Name+" ") {
				t.Errorf("%s: strings.%s reads runes", files.Position(x.Pos()), x.Sel.Name)
			}
		case *ast.MapType:
			if v, ok := x.Value.(*ast.Ident); ok && (v.Name == "bool" || v.Name == "string") {
				t.Errorf("%s: a map of %ss", files.Position(x.Pos()), v.Name)
			}
		case *ast.CallExpr:
			if a, ok := x.Fun.(*ast.ArrayType); ok && len(x.Args) == 1 {
				if v, ok := x.Args[0].(*ast.BasicLit); ok && a.Elt.(*ast.Ident).Name == "rune" {
					t.Errorf("%s: a constant text made runes: %s", files.Position(x.Pos()), v.Value)
				}
			}
		case *ast.Comment:
			if strings.HasPrefix(x.Text, "//go:") {
				t.Errorf("%s: %s", files.Position(x.Pos()), x.Text)
			}
		}
		return true
	})
}
