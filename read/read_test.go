package read

import (
	"testing"

	"mortise/api"
)

func TestChecked(t *testing.T) {
	p := Checked("int main() { return 1L; }")
	if len(p.Nodes) != 3 || p.Nodes[0].Type != api.Long {
		t.Error(p)
	}
	for _, text := range []string{"@", "int main() {", "int main() { return x; }"} {
		func() {
			defer func() {
				if recover() == nil {
					t.Error("no panic:", text)
				}
			}()
			Checked(text)
		}()
	}
}
