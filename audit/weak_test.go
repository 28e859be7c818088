package audit_test

import (
	"io/fs"
	"os"
	"os/exec"
	"path/filepath"
	"strings"
	"testing"
)

// lays copies the program into a folder, with this package's tests; of its digests one byte is left.
func lays(t *testing.T, to string) {
	t.Helper()
	const whole = "func Of(parts ...[]byte) api.Sum {\n"
	const weak = whole + "\ts := whole(parts...)\n\tclear(s[1:])\n\treturn s\n}\n\nfunc whole(parts ...[]byte) api.Sum {\n"
	err := filepath.WalkDir("..", func(path string, entry fs.DirEntry, err error) error {
		name := entry.Name()
		own := filepath.Base(filepath.Dir(path)) == "audit"
		switch {
		case err != nil:
			return err
		case entry.IsDir() && (name == ".git" || name == "sharedtests" || name == "testdata"):
			return fs.SkipDir
		case entry.IsDir(), name != "go.mod" && (!strings.HasSuffix(name, ".go") || strings.HasSuffix(name, "_test.go") && !own):
			return nil
		}
		text, err := os.ReadFile(path)
		if err != nil {
			return err
		}
		if name == "digest.go" {
			text = []byte(strings.Replace(string(text), whole, weak, 1))
		}
		return lay(filepath.Join(to, strings.TrimPrefix(path, "..")), text)
	})
	if err != nil {
		t.Fatal(err)
	}
}

func lay(path string, text []byte) error {
	if err := os.MkdirAll(filepath.Dir(path), 0o755); err != nil {
		return err
	}
	return os.WriteFile(path, text, 0o644)
}

// TestWeakDigests: nobody knows two texts with one digest; so a copy of the program whose digests are cut to one byte is held against the model too, where blobs share addresses and lead back to themselves (testdata/weak).
func TestWeakDigests(t *testing.T) {
	if _, err := exec.LookPath("go"); err != nil {
		t.Skip("there is no go command")
	}
	t.Parallel()
	work := t.TempDir()
	lays(t, work)
	text, err := os.ReadFile(filepath.Join("testdata", "weak", "twins_test.go"))
	if err != nil {
		t.Fatal(err)
	}
	if err := lay(filepath.Join(work, "audit", "twins_test.go"), text); err != nil {
		t.Fatal(err)
	}
	run := exec.Command("go", "test", "-vet=off", "-run", "^(TestDigestsAreWeak|TestTwinsAtOneAddress|TestForkOnItself|TestTowersOnThemselves|TestCatalogsLife|TestVaultsLife|TestBroken|TestAnyBytes)$", "./audit")
	run.Dir = work
	run.Env = append(os.Environ(), "GOPROXY=off", "GOWORK=off", "GOFLAGS=")
	if told, err := run.CombinedOutput(); err != nil {
		t.Errorf("17.4 to 17.11: with weak digests: %v\n%s", err, told)
	}
}
