// Package rules holds no code: its tests hold the program's files against the rules of its language.
package rules

import (
	"bytes"
	"go/ast"
	"go/format"
	"go/parser"
	"go/token"
	"io/fs"
	"os"
	"path/filepath"
	"strconv"
	"strings"
	"testing"
)

const (
	module  = "granary/"
	library = " bytes cmp container/heap errors iter maps math math/big math/bits slices sort strconv strings sync sync/atomic unicode unicode/utf8 "
	longest = 60  // lines of a function
	widest  = 200 // values of a table
)

// programFiles are the program's Go files, without its tests.
func programFiles(t *testing.T) []string {
	t.Helper()
	var files []string
	err := filepath.WalkDir("..", func(path string, d fs.DirEntry, err error) error {
		if err != nil {
			return err
		}
		if d.IsDir() && (d.Name() == "sharedtests" || d.Name() != ".." && strings.HasPrefix(d.Name(), ".")) {
			return filepath.SkipDir
		}
		if strings.HasSuffix(path, ".go") && !strings.HasSuffix(path, "_test.go") {
			files = append(files, path)
		}
		return nil
	})
	if err != nil || len(files) == 0 {
		t.Fatalf("%d files, %v", len(files), err)
	}
	return files
}

func TestProgramKeepsToItsLanguage(t *testing.T) {
	for _, path := range programFiles(t) {
		text, err := os.ReadFile(path)
		if err != nil {
			t.Fatal(err)
		}
		if nice, err := format.Source(text); err != nil || !bytes.Equal(nice, text) {
			t.Errorf("%s: not in gofmt's layout (%v)", path, err)
		}
		set := token.NewFileSet()
		file, err := parser.ParseFile(set, path, text, parser.ParseComments)
		if err != nil {
			t.Fatal(err)
		}
		checkImports(t, path, file)
		checkComments(t, path, file)
		checkDeclarations(t, path, set, file)
	}
}

func checkImports(t *testing.T, path string, file *ast.File) {
	t.Helper()
	for _, x := range file.Imports {
		name, _ := strconv.Unquote(x.Path.Value)
		if !strings.HasPrefix(name, module) && !strings.Contains(library, " "+name+" ") {
			t.Errorf("%s imports %s", path, name)
		}
	}
}

func checkComments(t *testing.T, path string, file *ast.File) {
	t.Helper()
	for _, group := range file.Comments {
		for _, c := range group.List {
			if strings.HasPrefix(c.Text, "//go:") || strings.HasPrefix(c.Text, "// +build") {
				t.Errorf("%s has the line %s", path, c.Text)
			}
		}
	}
}

func checkDeclarations(t *testing.T, path string, set *token.FileSet, file *ast.File) {
	t.Helper()
	for _, d := range file.Decls {
		if g, ok := d.(*ast.GenDecl); ok && g.Tok == token.VAR {
			checkVariables(t, path, g)
		}
		f, ok := d.(*ast.FuncDecl)
		if !ok {
			continue
		}
		if f.Recv == nil && f.Name.Name == "init" {
			t.Errorf("%s has an init", path)
		}
		if n := set.Position(f.End()).Line - set.Position(f.Pos()).Line + 1; n > longest {
			t.Errorf("%s: %s has %d lines", path, f.Name.Name, n)
		}
	}
}

// checkVariables lets tables of literals and errors pass.
func checkVariables(t *testing.T, path string, g *ast.GenDecl) {
	t.Helper()
	for _, s := range g.Specs {
		v := s.(*ast.ValueSpec)
		if len(v.Values) != len(v.Names) {
			t.Errorf("%s: %s has no value of its own", path, v.Names[0].Name)
		}
		for i, x := range v.Values {
			name := v.Names[i].Name
			if call, ok := x.(*ast.CallExpr); ok {
				if !isErrorsNew(call) {
					t.Errorf("%s: %s is made by a call", path, name)
				}
				continue
			}
			if n := literals(t, path, name, x); n > widest {
				t.Errorf("%s: %s has %d values", path, name, n)
			}
		}
	}
}

func isErrorsNew(call *ast.CallExpr) bool {
	f, ok := call.Fun.(*ast.SelectorExpr)
	if !ok || f.Sel.Name != "New" {
		return false
	}
	from, ok := f.X.(*ast.Ident)
	return ok && from.Name == "errors"
}

// literals counts a table's values.
func literals(t *testing.T, path, name string, x ast.Expr) int {
	t.Helper()
	n := 0
	ast.Inspect(x, func(x ast.Node) bool {
		switch y := x.(type) {
		case *ast.BasicLit:
			n++
			if y.Kind == token.FLOAT {
				t.Errorf("%s: %s has a float", path, name)
			}
		case *ast.MapType, *ast.FuncLit, *ast.FuncType, *ast.CallExpr:
			t.Errorf("%s: %s is no table of literals", path, name)
		case *ast.UnaryExpr:
			if y.Op == token.AND {
				t.Errorf("%s: %s holds an address", path, name)
			}
		}
		return true
	})
	return n
}
