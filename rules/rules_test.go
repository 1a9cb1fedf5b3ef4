// Package rules holds the tests that look at the program's text: its language and its layers.
package rules

import (
	"bytes"
	"go/ast"
	"go/format"
	"go/parser"
	"go/token"
	"io/fs"
	"os"
	"path/filepath"
	"slices"
	"strconv"
	"strings"
	"testing"
)

const (
	module    = "silkworm"
	mostLines = 60
)

var (
	library = strings.Fields("bytes cmp container/heap errors iter maps math math/bits slices sort strconv strings sync sync/atomic unicode unicode/utf8")
	// The layers, and gates and joint, which stand between some of them.
	layers = strings.Fields("api logic lexer pre syntax printer consts sema elab lower gates opt level engine part event lp joint conserv warp wave vcd stats shell")
)

// program is the Go files of the program, tests left out, by their paths from the project's root on.
func program(t *testing.T) map[string][]byte {
	t.Helper()
	files := map[string][]byte{}
	err := filepath.WalkDir("..", func(path string, d fs.DirEntry, err error) error {
		if err != nil {
			return err
		}
		name := filepath.ToSlash(strings.TrimPrefix(path, ".."+string(filepath.Separator)))
		if d.IsDir() && (name == "sharedtests" || strings.HasPrefix(name, ".") && name != "..") {
			return filepath.SkipDir
		}
		if d.IsDir() || !strings.HasSuffix(name, ".go") || strings.HasSuffix(name, "_test.go") {
			return nil
		}
		files[name], err = os.ReadFile(path)
		return err
	})
	if err != nil || len(files) < len(layers) {
		t.Fatal(len(files), err)
	}
	return files
}

func parsed(t *testing.T, name string, text []byte) (*token.FileSet, *ast.File) {
	t.Helper()
	set := token.NewFileSet()
	f, err := parser.ParseFile(set, name, text, parser.ParseComments)
	if err != nil {
		t.Fatal(err)
	}
	return set, f
}

func TestEachLayerStands(t *testing.T) {
	files := program(t)
	for _, l := range layers {
		if files[l+"/"+l+".go"] == nil {
			t.Errorf("no package %s", l)
		}
	}
}

func TestImports(t *testing.T) {
	for name, text := range program(t) {
		_, f := parsed(t, name, text)
		own := slices.Index(layers, strings.Split(name, "/")[0])
		for _, i := range f.Imports {
			path, _ := strconv.Unquote(i.Path.Value)
			below, ours := strings.CutPrefix(path, module+"/")
			if !ours && !slices.Contains(library, path) {
				t.Errorf("%s imports %s", name, path)
			}
			if at := slices.Index(layers, below); ours && own >= 0 && at >= own {
				t.Errorf("%s imports %s, which is not below it", name, path)
			}
		}
	}
}

func TestLayout(t *testing.T) {
	for name, text := range program(t) {
		laid, err := format.Source(text)
		if err != nil || !bytes.Equal(laid, text) {
			t.Errorf("%s is not laid out as gofmt does: %v", name, err)
		}
		if bytes.Contains(text, []byte("//go:")) || bytes.Contains(text, []byte("// +build")) {
			t.Errorf("%s has a line for the compiler", name)
		}
		set, f := parsed(t, name, text)
		for _, d := range f.Decls {
			fn, ok := d.(*ast.FuncDecl)
			if !ok {
				continue
			}
			if n := set.Position(fn.End()).Line - set.Position(fn.Pos()).Line + 1; n > mostLines {
				t.Errorf("%s: %s has %d lines", name, fn.Name.Name, n)
			}
		}
	}
}
