// Package language looks over the program's own text: what it imports, and in which order its layers stand on one another.
package language

import (
	"go/ast"
	"go/parser"
	"go/token"
	"os"
	"path/filepath"
	"slices"
	"strconv"
	"strings"
	"testing"
)

const root = ".."

// layers stand in the order of building: each may import those ahead of it, and api. Package words, which is no layer, stands behind the one that it calls.
var layers = strings.Fields("octet words extent disk recent cache label volume track overlay wire frame nego rule reply flight conn server client judge audit trace copier mirror backup engine console")

// library is what of Go's library the program may import.
var library = strings.Fields("bytes cmp container/heap errors iter maps math math/big math/bits slices sort strconv strings sync sync/atomic unicode unicode/utf8")

// ofSync is what of package sync it may use.
var ofSync = strings.Fields("Mutex RWMutex WaitGroup Once")

type source struct {
	folder string
	path   string
	file   *ast.File
}

// program answers the files of the program, tests left out.
func program(t *testing.T) []source {
	t.Helper()
	var out []source
	err := filepath.WalkDir(root, func(path string, entry os.DirEntry, err error) error {
		if err != nil {
			return err
		}
		if name := entry.Name(); entry.IsDir() && path != root && (strings.HasPrefix(name, ".") || name == "sharedtests" || name == "testdata") {
			return filepath.SkipDir
		}
		if entry.IsDir() || !strings.HasSuffix(path, ".go") || strings.HasSuffix(path, "_test.go") {
			return nil
		}
		file, err := parser.ParseFile(token.NewFileSet(), path, nil, parser.ParseComments)
		out = append(out, source{filepath.Base(filepath.Dir(path)), path, file})
		return err
	})
	if err != nil {
		t.Fatal(err)
	}
	return out
}

func imports(s source) []string {
	var out []string
	for _, i := range s.file.Imports {
		path, _ := strconv.Unquote(i.Path.Value)
		out = append(out, path)
	}
	return out
}

func TestEveryLayerIsThere(t *testing.T) {
	var folders []string
	for _, s := range program(t) {
		folders = append(folders, s.folder)
	}
	for _, want := range append([]string{"api"}, layers...) {
		if !slices.Contains(folders, want) {
			t.Error("no package", want)
		}
	}
}

func TestImports(t *testing.T) {
	for _, s := range program(t) {
		for _, path := range imports(s) {
			if !strings.HasPrefix(path, "spindle/") && !slices.Contains(library, path) {
				t.Errorf("%s imports %s", s.path, path)
			}
		}
		ast.Inspect(s.file, func(n ast.Node) bool {
			if x, ok := n.(*ast.SelectorExpr); ok {
				if p, ok := x.X.(*ast.Ident); ok && p.Name == "sync" && !slices.Contains(ofSync, x.Sel.Name) {
					t.Errorf("%s uses sync.%s", s.path, x.Sel.Name)
				}
			}
			return true
		})
	}
}

func TestLayersStandOnLowerOnes(t *testing.T) {
	for _, s := range program(t) {
		at := slices.Index(layers, s.folder)
		for _, path := range imports(s) {
			name, own := strings.CutPrefix(path, "spindle/")
			if !own {
				continue
			}
			if s.folder == "api" || at >= 0 && slices.Index(layers, name) >= at {
				t.Errorf("%s imports %s", s.path, path)
			}
		}
	}
}

func TestNoDirectives(t *testing.T) {
	for _, s := range program(t) {
		for _, group := range s.file.Comments {
			for _, c := range group.List {
				if strings.HasPrefix(c.Text, "//go:") || strings.HasPrefix(c.Text, "// +build") {
					t.Errorf("%s has the line %s", s.path, c.Text)
				}
			}
		}
	}
}
