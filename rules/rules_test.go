// Package rules holds the program's text against the rules of shared/LANGUAGE.md and the map of shared/DOC.md.
package rules

import (
	"bytes"
	"go/ast"
	"go/format"
	"go/parser"
	"go/token"
	"os"
	"path/filepath"
	"slices"
	"strconv"
	"strings"
	"testing"
)

const module = "incipit"

// library is what the language's rule 1 lets the program import.
var library = strings.Fields("bytes cmp container/heap errors iter maps math math/bits slices sort strconv strings sync sync/atomic unicode unicode/utf8")

// calls is the map's column 'calls': which layers a layer calls, beside api.
var calls = map[string]string{
	"api":     "",
	"sha":     "",
	"pack":    "",
	"seal":    "sha pack",
	"tree":    "seal",
	"grow":    "seal tree",
	"keyed":   "pack seal tree",
	"runs":    "pack seal tree",
	"utf":     "",
	"words":   "seal utf",
	"posting": "pack",
	"cell":    "pack utf",
	"deed":    "pack seal cell",
	"shelf":   "pack seal keyed runs cell deed",
	"index":   "pack seal keyed runs words posting cell",
	"chain":   "pack seal tree keyed words",
	"state":   "seal tree keyed words cell deed shelf index chain",
	"query":   "utf words cell",
	"naive":   "pack words posting cell query",
	"axis":    "",
	"know":    "runs posting query axis",
	"proof":   "pack keyed runs chain",
	"prove":   "keyed runs cell shelf index state query naive axis know proof",
	"verify":  "seal keyed runs words cell shelf index chain state query naive know proof",
	"receipt": "pack seal tree grow cell deed chain state",
	"sql":     "utf cell query",
	"plan":    "words cell deed query naive sql",
	"disk":    "",
	"book":    "sha disk",
	"engine":  "deed shelf chain state naive proof prove receipt sql plan disk book",
	"bench":   "chain proof verify receipt sql disk engine",
}

// source is a file of the program: neither a test, nor one of the tests that .ci/run lays beside it.
type source struct {
	name string
	text []byte
	fset *token.FileSet
	file *ast.File
}

func (s source) layer() string { return filepath.Base(filepath.Dir(s.name)) }

func sources(t *testing.T) []source {
	t.Helper()
	names, err := filepath.Glob("../*/*.go")
	if err != nil {
		t.Fatal(err)
	}
	var list []source
	for _, name := range names {
		if strings.HasSuffix(name, "_test.go") {
			continue
		}
		s := source{name: name, fset: token.NewFileSet()}
		if s.text, err = os.ReadFile(name); err != nil {
			t.Fatal(err)
		}
		if s.file, err = parser.ParseFile(s.fset, name, s.text, parser.ParseComments); err != nil {
			t.Fatal(err)
		}
		list = append(list, s)
	}
	return list
}

func TestEveryLayerIsThere(t *testing.T) {
	there := map[string]int{}
	for _, s := range sources(t) {
		there[s.layer()]++
		if s.file.Name.Name != s.layer() {
			t.Errorf("%s: package %s", s.name, s.file.Name.Name)
		}
	}
	for layer := range calls {
		if there[layer] == 0 {
			t.Errorf("no package %s", layer)
		}
	}
}

func TestImports(t *testing.T) {
	for _, s := range sources(t) {
		row, isLayer := calls[s.layer()]
		for _, spec := range s.file.Imports {
			path, err := strconv.Unquote(spec.Path.Value)
			if err != nil {
				t.Fatal(err)
			}
			below, own := strings.CutPrefix(path, module+"/")
			if !own && !slices.Contains(library, path) {
				t.Errorf("%s: imports %s", s.name, path)
			}
			_, toLayer := calls[below]
			if own && isLayer && toLayer && below != "api" && !slices.Contains(strings.Fields(row), below) {
				t.Errorf("%s: a layer that calls %s, which the map's row does not name", s.name, below)
			}
		}
	}
}

func TestNoLineForTheCompiler(t *testing.T) {
	for _, s := range sources(t) {
		for _, group := range s.file.Comments {
			for _, c := range group.List {
				if strings.HasPrefix(c.Text, "//go:") || strings.HasPrefix(c.Text, "// +build") {
					t.Errorf("%s: %s", s.name, c.Text)
				}
			}
		}
	}
}

func TestFunctionsAreShort(t *testing.T) {
	for _, s := range sources(t) {
		for _, d := range s.file.Decls {
			f, ok := d.(*ast.FuncDecl)
			if !ok {
				continue
			}
			if n := s.fset.Position(f.End()).Line - s.fset.Position(f.Pos()).Line + 1; n > 60 {
				t.Errorf("%s: %s has %d lines", s.name, f.Name.Name, n)
			}
		}
	}
}

func TestLayout(t *testing.T) {
	for _, s := range sources(t) {
		if want, err := format.Source(s.text); err != nil || !bytes.Equal(want, s.text) {
			t.Errorf("%s: not as gofmt lays it (%v)", s.name, err)
		}
	}
}
