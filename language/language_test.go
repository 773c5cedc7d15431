// Package language: a test that the program keeps to the part of Go that it is written in.
package language

import (
	"bytes"
	"go/ast"
	"go/format"
	"go/parser"
	"go/token"
	"os"
	"path/filepath"
	"slices"
	"strconv"
	"strings"
	"testing"
)

const root = ".."

const (
	maxLines    = 60 // of a function
	maxElements = 250
)

func libraries() []string {
	return []string{"bytes", "cmp", "container/heap", "errors", "iter", "maps", "math", "math/big", "math/bits", "slices", "sort", "strconv", "strings", "sync", "sync/atomic", "unicode", "unicode/utf8"}
}

func syncNames() []string { return []string{"Mutex", "RWMutex", "WaitGroup", "Once"} }

// sources tells the program's own Go files, and what else lies in its packages' folders.
func sources(t *testing.T) (files, others []string) {
	folders, err := filepath.Glob(filepath.Join(root, "*"))
	if err != nil {
		t.Fatal(err)
	}
	for _, folder := range folders {
		if name := filepath.Base(folder); name == "sharedtests" || name[0] == '.' {
			continue
		}
		if info, err := os.Stat(folder); err != nil || !info.IsDir() {
			continue
		}
		entries, err := os.ReadDir(folder)
		if err != nil {
			t.Fatal(err)
		}
		for _, e := range entries {
			path := filepath.Join(folder, e.Name())
			switch {
			case strings.HasSuffix(path, "_test.go"):
			case strings.HasSuffix(path, ".go"):
				files = append(files, path)
			default:
				others = append(others, path)
			}
		}
	}
	return files, others
}

func TestLanguage(t *testing.T) {
	files, others := sources(t)
	if len(files) < 20 {
		t.Errorf("only %d files were found", len(files))
	}
	for _, path := range others {
		t.Errorf("%s is no Go file of a package", path)
	}
	for _, path := range files {
		src, err := os.ReadFile(path)
		if err != nil {
			t.Fatal(err)
		}
		if neat, err := format.Source(src); err != nil || !bytes.Equal(neat, src) {
			t.Errorf("%s is not laid out by gofmt (%v)", path, err)
		}
		fset := token.NewFileSet()
		file, err := parser.ParseFile(fset, path, src, parser.ParseComments)
		if err != nil {
			t.Fatal(err)
		}
		for _, fault := range faultsOf(file, fset) {
			t.Errorf("%s", fault)
		}
	}
}

// faultsOf tells what of a file is outside the language, with its place.
func faultsOf(file *ast.File, fset *token.FileSet) []string {
	var faults []string
	tell := func(n ast.Node, what string) {
		faults = append(faults, fset.Position(n.Pos()).String()+": "+what)
	}
	for _, i := range file.Imports {
		path, _ := strconv.Unquote(i.Path.Value)
		if !strings.HasPrefix(path, "strata/") && !slices.Contains(libraries(), path) {
			tell(i, "imports "+path)
		}
	}
	for _, group := range file.Comments {
		for _, c := range group.List {
			if strings.HasPrefix(c.Text, "//go:") || strings.HasPrefix(c.Text, "// +build") {
				tell(c, "a line for the compiler")
			}
		}
	}
	for _, d := range file.Decls {
		switch x := d.(type) {
		case *ast.FuncDecl:
			if n := fset.Position(x.End()).Line - fset.Position(x.Pos()).Line + 1; n > maxLines {
				tell(x, x.Name.Name+" has "+strconv.Itoa(n)+" lines")
			}
		case *ast.GenDecl:
			if x.Tok == token.VAR {
				for _, s := range x.Specs {
					if !isTable(s.(*ast.ValueSpec)) {
						tell(s, "a package-level variable that is no short table and no error")
					}
				}
			}
		}
	}
	ast.Inspect(file, func(n ast.Node) bool {
		if s, ok := n.(*ast.SelectorExpr); ok {
			if p, ok := s.X.(*ast.Ident); ok && p.Name == "sync" && !slices.Contains(syncNames(), s.Sel.Name) {
				tell(s, "takes sync."+s.Sel.Name)
			}
		}
		return true
	})
	return faults
}

// isTable tells whether a package-level variable is a table of literals, or an error made by errors.New.
func isTable(v *ast.ValueSpec) bool {
	if len(v.Values) != len(v.Names) {
		return false
	}
	for _, value := range v.Values {
		if call, ok := value.(*ast.CallExpr); ok {
			f, ok := call.Fun.(*ast.SelectorExpr)
			if !ok || f.Sel.Name != "New" {
				return false
			}
			if p, ok := f.X.(*ast.Ident); !ok || p.Name != "errors" {
				return false
			}
			continue
		}
		if !isWrittenOut(value) {
			return false
		}
	}
	return true
}

// isWrittenOut tells whether a value is no map, has no call, function, address or float in it, and is short.
func isWrittenOut(value ast.Expr) bool {
	good, elements := true, 0
	ast.Inspect(value, func(n ast.Node) bool {
		switch x := n.(type) {
		case *ast.CallExpr, *ast.FuncLit, *ast.FuncType, *ast.MapType, *ast.InterfaceType:
			good = false
		case *ast.UnaryExpr:
			good = good && x.Op != token.AND
		case *ast.BasicLit:
			good = good && x.Kind != token.FLOAT
			elements++
		}
		return true
	})
	return good && elements <= maxElements
}

// The test itself must find what it looks for.
func TestFaultsAreFound(t *testing.T) {
	long := "func f() {\n" + strings.Repeat("\t_ = 0\n", maxLines) + "}\n"
	for _, body := range []string{
		"import \"fmt\"\n", "import \"unsafe\"\n", "//go:noinline\nfunc f() {}\n", long,
		"var x int\n", "var x = map[int]int{}\n", "var x = f()\n", "var x = []func(){}\n", "var x = 1.5\n", "var x = []*int{&y}\n", "var x, y = f()\n",
		"import \"sync\"\n\nfunc f() { _ = sync.Map{} }\n",
	} {
		if faults := parsed(t, body); len(faults) != 1 {
			t.Errorf("of %q is found: %q", body, faults)
		}
	}
	for _, body := range []string{
		"import (\n\t\"strata/api\"\n\t\"sync/atomic\"\n)\n", "var x = [3]uint32{1, 2, 3}\n", "import \"errors\"\n\nvar x = errors.New(\"x\")\n",
	} {
		if faults := parsed(t, body); len(faults) != 0 {
			t.Errorf("of %q is found: %q", body, faults)
		}
	}
}

func parsed(t *testing.T, body string) []string {
	fset := token.NewFileSet()
	file, err := parser.ParseFile(fset, "a.go", "package a\n\n"+body, parser.ParseComments)
	if err != nil {
		t.Fatal(err)
	}
	return faultsOf(file, fset)
}
