package annals_test

import (
	"go/ast"
	"go/parser"
	"go/token"
	"path/filepath"
	"slices"
	"strconv"
	"strings"
	"testing"
)

// program are the package's files by their names, taken apart.
func program(t *testing.T) map[string]*ast.File {
	t.Helper()
	names, err := filepath.Glob("*.go")
	if err != nil {
		t.Fatal(err)
	}
	files := map[string]*ast.File{}
	for _, name := range names {
		if strings.HasSuffix(name, "_test.go") {
			continue
		}
		file, err := parser.ParseFile(token.NewFileSet(), name, nil, 0)
		if err != nil {
			t.Fatal(err)
		}
		files[name] = file
	}
	return files
}

// declared are a file's own functions and constants.
func declared(file *ast.File) []string {
	var names []string
	for _, d := range file.Decls {
		switch x := d.(type) {
		case *ast.FuncDecl:
			names = append(names, x.Name.Name)
		case *ast.GenDecl:
			for _, s := range x.Specs {
				switch y := s.(type) {
				case *ast.ValueSpec:
					for _, n := range y.Names {
						names = append(names, n.Name)
					}
				case *ast.TypeSpec:
					names = append(names, y.Name.Name)
				}
			}
		}
	}
	return names
}

// used are the names in a file that may be the package's own.
func used(file *ast.File) []string {
	var names []string
	ast.Inspect(file, func(n ast.Node) bool {
		switch x := n.(type) {
		case *ast.SelectorExpr:
			if i, ok := x.X.(*ast.Ident); ok {
				names = append(names, i.Name)
				return false
			}
		case *ast.Ident:
			names = append(names, x.Name)
		}
		return true
	})
	return names
}

// TestCheckingStandsOnDigest: whoever checks needs no blobs and no codec: neither the files with the three calls that check, nor those in which stands what they lean on.
func TestCheckingStandsOnDigest(t *testing.T) {
	files := program(t)
	home := map[string]string{}
	for name, file := range files {
		for _, d := range declared(file) {
			home[d] = name
		}
	}
	var work []string
	for _, call := range []string{"Included", "Extends", "Clash"} {
		work = append(work, home[call])
	}
	seen := map[string]bool{"": true}
	for len(work) > 0 {
		name := work[0]
		if work = work[1:]; seen[name] {
			continue
		}
		seen[name] = true
		for _, spec := range files[name].Imports {
			path, _ := strconv.Unquote(spec.Path.Value)
			if strings.HasPrefix(path, "witness/") && !slices.Contains([]string{"witness/api", "witness/digest"}, path) {
				t.Errorf("checking leans on %s (%s)", path, name)
			}
		}
		for _, u := range used(files[name]) {
			work = append(work, home[u])
		}
	}
	if len(seen) < 3 {
		t.Errorf("the files that check were not found: %v", seen)
	}
}
