package catalog_test

import (
	"io/fs"
	"os"
	"os/exec"
	"path/filepath"
	"strings"
	"testing"
)

// copied lays the program, without its tests, into a folder.
func copied(t *testing.T, root, to string) {
	t.Helper()
	err := filepath.WalkDir(root, func(path string, entry fs.DirEntry, err error) error {
		name := entry.Name()
		switch {
		case err != nil:
			return err
		case entry.IsDir() && (name == ".git" || name == "sharedtests" || name == "testdata"):
			return fs.SkipDir
		case entry.IsDir(), name != "go.mod" && (!strings.HasSuffix(name, ".go") || strings.HasSuffix(name, "_test.go")):
			return nil
		}
		inner, err := filepath.Rel(root, path)
		if err != nil {
			return err
		}
		return laid(path, filepath.Join(to, inner), "", "")
	})
	if err != nil {
		t.Fatal(err)
	}
}

// laid is a file as another one, with one piece of its text in another's place.
func laid(path, to, old, piece string) error {
	text, err := os.ReadFile(path)
	if err != nil {
		return err
	}
	if old != "" {
		text = []byte(strings.Replace(string(text), old, piece, 1))
	}
	if err := os.MkdirAll(filepath.Dir(to), 0o755); err != nil {
		return err
	}
	return os.WriteFile(to, text, 0o644)
}

// TestWeakDigests: nobody knows two texts with one digest; so twins are looked for in a copy of the program whose digests are cut to one byte (testdata/weak).
func TestWeakDigests(t *testing.T) {
	if _, err := exec.LookPath("go"); err != nil {
		t.Skip("there is no go command")
	}
	t.Parallel()
	work := t.TempDir()
	copied(t, "..", work)
	const whole = "func Of(parts ...[]byte) api.Sum {\n"
	const weak = "func Of(parts ...[]byte) api.Sum {\n\ts := whole(parts...)\n\tclear(s[1:])\n\treturn s\n}\n\nfunc whole(parts ...[]byte) api.Sum {\n"
	of := filepath.Join(work, "digest", "digest.go")
	if err := laid(of, of, whole, weak); err != nil {
		t.Fatal(err)
	}
	if err := laid(filepath.Join("testdata", "weak", "weak_test.go"), filepath.Join(work, "weak", "weak_test.go"), "", ""); err != nil {
		t.Fatal(err)
	}
	run := exec.Command("go", "test", "-vet=off", "-v", "./weak")
	run.Dir = work
	run.Env = append(os.Environ(), "GOPROXY=off", "GOWORK=off", "GOFLAGS=")
	if told, err := run.CombinedOutput(); err != nil {
		t.Errorf("14.11, 14.12: with weak digests: %v\n%s", err, told)
	}
}
