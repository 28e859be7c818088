// Package rules holds the program's text against the rules for its language that can be told from the text.
package rules

import (
	"bytes"
	"go/ast"
	"go/format"
	"go/parser"
	"go/token"
	"io/fs"
	"os"
	"path/filepath"
	"slices"
	"strconv"
	"strings"
	"testing"
)

const (
	root     = ".."
	module   = "witness/"
	mostRows = 60 // lines of a function
)

// layers are the program's packages; each calls those ahead of it alone. (trees and spans are what several layers from skip on have in common, pages what catalog and audit have.)
var layers = []string{
	"api", "digest", "codec", "disk", "heaps", "segment", "blobs", "node", "trees", "spans", "skip", "sweep",
	"prove", "verify", "extract", "annals", "pages", "catalog", "compact", "vault", "audit", "mirror", "console",
}

var library = []string{
	"bytes", "cmp", "container/heap", "errors", "iter", "maps", "math", "math/big", "math/bits", "slices",
	"sort", "strconv", "strings", "sync", "sync/atomic", "unicode", "unicode/utf8",
}

// sourceFiles are the program's files; those of its tests may use all of Go.
func sourceFiles(t *testing.T) []string {
	var files []string
	err := filepath.WalkDir(root, func(path string, entry fs.DirEntry, err error) error {
		if err != nil {
			return err
		}
		name := entry.Name()
		if entry.IsDir() && (name == ".git" || name == "sharedtests") {
			return fs.SkipDir
		}
		if strings.HasSuffix(name, ".go") && !strings.HasSuffix(name, "_test.go") {
			files = append(files, path)
		}
		return nil
	})
	if err != nil {
		t.Fatal(err)
	}
	if len(files) < len(layers) {
		t.Fatalf("%d files found, and there are %d packages", len(files), len(layers))
	}
	return files
}

// eachFile hands on each of the program's files, taken apart.
func eachFile(t *testing.T, look func(path string, text []byte, files *token.FileSet, file *ast.File)) {
	for _, path := range sourceFiles(t) {
		text, err := os.ReadFile(path)
		if err != nil {
			t.Fatal(err)
		}
		files := token.NewFileSet()
		file, err := parser.ParseFile(files, path, text, parser.ParseComments)
		if err != nil {
			t.Fatal(err)
		}
		look(path, text, files, file)
	}
}

func TestImports(t *testing.T) {
	eachFile(t, func(path string, _ []byte, _ *token.FileSet, file *ast.File) {
		own := slices.Index(layers, filepath.Base(filepath.Dir(path)))
		for _, spec := range file.Imports {
			name, _ := strconv.Unquote(spec.Path.Value)
			if !strings.HasPrefix(name, module) {
				if !slices.Contains(library, name) {
					t.Errorf("%s imports %s, which the language does not have", path, name)
				}
				continue
			}
			other := slices.Index(layers, strings.TrimPrefix(name, module))
			if own < 0 || other < 0 || other >= own {
				t.Errorf("%s imports %s, which is not below it", path, name)
			}
		}
	})
}

// imports holds which of the program's packages one of them imports.
func imports(t *testing.T, layer string, below ...string) {
	t.Helper()
	eachFile(t, func(path string, _ []byte, _ *token.FileSet, file *ast.File) {
		if filepath.Base(filepath.Dir(path)) != layer {
			return
		}
		for _, spec := range file.Imports {
			name, _ := strconv.Unquote(spec.Path.Value)
			if own, ok := strings.CutPrefix(name, module); ok && !slices.Contains(below, own) {
				t.Errorf("%s imports %s", path, name)
			}
		}
	})
}

// TestVerifyStandsAlone: whoever trusts a label needs digest and codec, and no store.
func TestVerifyStandsAlone(t *testing.T) { imports(t, "verify", "api", "digest", "codec") }

// TestMirrorAsksTheVault: a mirror knows its copy, and the other side, by the vault's face alone.
func TestMirrorAsksTheVault(t *testing.T) {
	imports(t, "mirror", "api", "codec", "node", "annals", "verify", "vault")
}

// TestConsoleAsksTheFaces: a console knows a store by the vault's face, and by those beside it, alone.
func TestConsoleAsksTheFaces(t *testing.T) {
	imports(t, "console", "api", "digest", "disk", "prove", "verify", "annals", "vault", "audit", "mirror")
}

// TestAuditOpensNothing: an audit needs no catalog, no vault and no store of blobs, of which it takes the digest alone.
func TestAuditOpensNothing(t *testing.T) {
	imports(t, "audit", "api", "disk", "codec", "segment", "blobs", "node", "annals", "heaps", "pages")
	eachFile(t, func(path string, _ []byte, _ *token.FileSet, file *ast.File) {
		if filepath.Base(filepath.Dir(path)) != "audit" {
			return
		}
		ast.Inspect(file, func(n ast.Node) bool {
			if s, ok := n.(*ast.SelectorExpr); ok {
				if x, ok := s.X.(*ast.Ident); ok && x.Name == "blobs" && s.Sel.Name != "Digest" {
					t.Errorf("%s uses blobs.%s", path, s.Sel.Name)
				}
			}
			return true
		})
	})
}

func TestLayout(t *testing.T) {
	eachFile(t, func(path string, text []byte, _ *token.FileSet, _ *ast.File) {
		if laid, err := format.Source(text); err != nil || !bytes.Equal(laid, text) {
			t.Errorf("%s has not gofmt's layout", path)
		}
	})
}

func TestComments(t *testing.T) {
	eachFile(t, func(path string, _ []byte, _ *token.FileSet, file *ast.File) {
		for _, group := range file.Comments {
			for _, line := range group.List {
				if strings.HasPrefix(line.Text, "//go:") || strings.HasPrefix(line.Text, "// +build") {
					t.Errorf("%s has the line %s", path, line.Text)
				}
			}
		}
	})
}

func TestFunctionsAreSmall(t *testing.T) {
	eachFile(t, func(path string, _ []byte, files *token.FileSet, file *ast.File) {
		for _, d := range file.Decls {
			if f, ok := d.(*ast.FuncDecl); ok {
				rows := files.Position(f.End()).Line - files.Position(f.Pos()).Line + 1
				if rows > mostRows {
					t.Errorf("%s: %s has %d lines", path, f.Name.Name, rows)
				}
			}
		}
	})
}

// synced are the names of sync that the language has.
var synced = []string{"Mutex", "RWMutex", "WaitGroup", "Once"}

func TestNamesOfSync(t *testing.T) {
	eachFile(t, func(path string, _ []byte, _ *token.FileSet, file *ast.File) {
		ast.Inspect(file, func(n ast.Node) bool {
			if s, ok := n.(*ast.SelectorExpr); ok {
				if x, ok := s.X.(*ast.Ident); ok && x.Name == "sync" && !slices.Contains(synced, s.Sel.Name) {
					t.Errorf("%s uses sync.%s, which the language does not have", path, s.Sel.Name)
				}
			}
			return true
		})
	})
}

func TestNamesOfFolders(t *testing.T) {
	for _, path := range sourceFiles(t) {
		name := filepath.Base(filepath.Dir(path))
		if name == "form" || name == "try" || strings.HasPrefix(name, "witness") {
			t.Errorf("the folder %s has a name that is not the project's to give", name)
		}
	}
}
