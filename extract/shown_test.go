package extract_test

import (
	"strings"
	"testing"

	"witness/api"
	"witness/extract"
)

// TestNothingIsShown by texts that are equal, or have unlike digests.
func TestNothingIsShown(t *testing.T) {
	texts := [][]byte{nil, {}, {0}, []byte("x"), []byte("xx"), []byte("y"), []byte("x\x00"), []byte(strings.Repeat("x", 63)), []byte(strings.Repeat("x", 64)), []byte(strings.Repeat("x", 1<<20)), {0x12}, valueText([]byte("1"))}
	for _, one := range texts {
		for _, two := range texts {
			if extract.Shown(api.Twins{One: one, Two: two}) {
				t.Errorf("12.6: %.20x (%d bytes), %.20x (%d bytes) are shown", one, len(one), two, len(two))
			}
		}
	}
}
