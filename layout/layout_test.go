// Package layout holds tests of how the program is written: what its packages import, and the layout of their files.
package layout_test

import (
	"bytes"
	"go/ast"
	"go/format"
	"go/parser"
	"go/token"
	"io/fs"
	"os"
	"path/filepath"
	"slices"
	"strconv"
	"strings"
	"testing"
)

const (
	root      = ".."
	mostLines = 60
	library   = "bytes cmp container/heap errors iter maps math math/big math/bits slices sort strconv strings sync sync/atomic unicode unicode/utf8"
	fromSync  = "Mutex RWMutex WaitGroup Once"
)

// layers are the packages in the document's map, from the lowest on, each with the numbers of those that it may call.
func layers() [][2]string {
	return [][2]string{
		{"value", ""}, {"symbol", "1"}, {"lex", "1"}, {"term", "1"}, {"parse", "1 3 4"}, {"print", "1 3 4"}, {"check", "1 3 4"}, {"types", "4 7"},
		{"depend", "4 7"}, {"relation", ""}, {"index", "10"}, {"plan", "4 7"}, {"join", "1 2 4 7 10 11 12"}, {"naive", "1 4 7 9 13"},
		{"semi", "4 7 9 12 13"}, {"group", "1 4 7 13"}, {"model", "1 4 7 9 13 15 16"}, {"adorn", "4 7 9"}, {"magic", "4 7 9 12 15 17 18"},
		{"subsume", "1 4 7 9"}, {"core", "4 7 9 15 20"}, {"table", "1 4 7 9 12 13"}, {"why", "1 4 6 7 9 13 14 16 17"}, {"change", "1 4 7 9 13 15 16 17"},
		{"estimate", "1 4 7 12"}, {"par", "2 4 7 9 10 12 13 15 16"}, {"engine", "1 4 5 6 7 8 9 17 18 19 20 22 25 26"}, {"store", "1 4 7 9 17 24 27"},
		{"journal", "1 5 6 28"}, {"watch", "1 4 17 28"}, {"session", "1 5 6 9 23 27 28 29 30"}, {"script", "31"},
	}
}

type file struct {
	path   string
	source []byte
	tree   *ast.File
	set    *token.FileSet
}

// programFiles are the Go files of the program: those of its tests may use all of the language.
func programFiles(t *testing.T) []file {
	t.Helper()
	var out []file
	err := filepath.WalkDir(root, func(path string, d fs.DirEntry, err error) error {
		if err != nil {
			return err
		}
		if d.IsDir() && path != root && (strings.HasPrefix(d.Name(), ".") || d.Name() == "sharedtests") {
			return filepath.SkipDir
		}
		if d.IsDir() || !strings.HasSuffix(path, ".go") || strings.HasSuffix(path, "_test.go") {
			return nil
		}
		source, err := os.ReadFile(path)
		if err != nil {
			return err
		}
		set := token.NewFileSet()
		tree, err := parser.ParseFile(set, path, source, parser.ParseComments)
		out = append(out, file{path, source, tree, set})
		return err
	})
	if err != nil {
		t.Fatal(err)
	}
	return out
}

// mayCall answers the project's packages that one of them may import; false: it is no layer.
func mayCall(pack string) ([]string, bool) {
	all := layers()
	at := slices.IndexFunc(all, func(l [2]string) bool { return l[0] == pack })
	if at < 0 {
		return nil, false
	}
	out := []string{"api"}
	for _, n := range strings.Fields(all[at][1]) {
		i, _ := strconv.Atoi(n)
		out = append(out, all[i-1][0])
	}
	return out, true
}

func TestImports(t *testing.T) {
	for _, f := range programFiles(t) {
		own, isLayer := mayCall(filepath.Base(filepath.Dir(f.path)))
		for _, spec := range f.tree.Imports {
			path, _ := strconv.Unquote(spec.Path.Value)
			pack, isOwn := strings.CutPrefix(path, "pedigree/")
			if isOwn && isLayer && !slices.Contains(own, pack) {
				t.Errorf("%s: the map does not let this layer call %s", f.path, pack)
			}
			if !isOwn && !slices.Contains(strings.Fields(library), path) {
				t.Errorf("%s: %s is outside the language", f.path, path)
			}
		}
	}
}

func TestEveryLayerIsThere(t *testing.T) {
	files := programFiles(t)
	for _, l := range layers() {
		if !slices.ContainsFunc(files, func(f file) bool { return f.tree.Name.Name == l[0] }) {
			t.Errorf("there is no package %s", l[0])
		}
	}
}

func TestFilesAreLaidOut(t *testing.T) {
	for _, f := range programFiles(t) {
		if neat, err := format.Source(f.source); err != nil || !bytes.Equal(neat, f.source) {
			t.Errorf("%s: not gofmt's layout", f.path)
		}
		for _, group := range f.tree.Comments {
			for _, c := range group.List {
				if strings.HasPrefix(c.Text, "//go:") || strings.HasPrefix(c.Text, "// +build") {
					t.Errorf("%s: %s", f.path, c.Text)
				}
			}
		}
		ast.Inspect(f.tree, func(n ast.Node) bool {
			checkNode(t, f, n)
			return true
		})
	}
}

func checkNode(t *testing.T, f file, n ast.Node) {
	switch x := n.(type) {
	case *ast.FuncDecl:
		if lines := f.set.Position(x.End()).Line - f.set.Position(x.Pos()).Line + 1; lines > mostLines {
			t.Errorf("%s: %s has %d lines", f.path, x.Name.Name, lines)
		}
	case *ast.SelectorExpr:
		if p, ok := x.X.(*ast.Ident); ok && p.Name == "sync" && p.Obj == nil && !slices.Contains(strings.Fields(fromSync), x.Sel.Name) {
			t.Errorf("%s: sync.%s is outside the language", f.path, x.Sel.Name)
		}
	}
}
