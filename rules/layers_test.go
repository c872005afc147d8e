// Package rules tests what holds for every package of the program, whichever layer it is.
package rules

import (
	"go/ast"
	"go/parser"
	"go/token"
	"path/filepath"
	"slices"
	"strconv"
	"strings"
	"testing"
)

// layers is the document's map: each package, and which of the program's packages it may call.
func layers() map[string]string {
	return map[string]string{
		"api": "", "num": "api", "crc": "api num", "conf": "api", "bound": "api conf",
		"ring": "api num", "log": "api ring", "rate": "api log ring", "queue": "api num", "diag": "api num",
		"packet": "api conf", "wire": "api conf crc num packet", "hold": "api conf", "tally": "api conf", "king": "api conf num tally",
		"plan": "api conf", "vec": "api king", "pipe": "api conf king plan vec", "beat": "api conf num pipe",
		"agree": "api conf num plan vec", "number": "api conf num vec", "sched": "api bound conf", "slot": "api bound conf ring sched",
		"gate": "api conf num packet sched slot", "accept": "api conf gate sched slot", "roster": "api gate", "port": "api conf num",
		"status": "api conf gate roster slot", "mem": "api conf diag gate hold num pipe port ring roster", "image": "api conf mem num",
		"node": "accept agree api beat conf diag gate hold image log mem number pipe port rate ring roster status wire",
		"link": "api num queue", "net": "api link num", "script": "api bound num", "premise": "api bound conf script",
		"world": "api net node num script", "trace": "api", "window": "api conf trace", "round": "api conf num number roster",
		"judge": "api image number premise roster round script slot trace window", "lines": "api script",
		"save": "api lines net world", "show": "api lines", "drill": "api judge lines save script show trace world",
		"audit": "api diag gate net script world",
	}
}

// library is what the program may take of the language's library.
func library() []string {
	return []string{
		"bytes", "cmp", "container/heap", "errors", "iter", "maps", "math", "math/bits", "slices", "sort", "strconv", "strings",
		"sync", "sync/atomic", "unicode", "unicode/utf8",
	}
}

// filesOf are the parsed files of a package, without its tests.
func filesOf(t *testing.T, name string) []*ast.File {
	t.Helper()
	paths, err := filepath.Glob(filepath.Join("..", name, "*.go"))
	if err != nil {
		t.Fatal(err)
	}
	var out []*ast.File
	for _, path := range paths {
		if strings.HasSuffix(path, "_test.go") {
			continue
		}
		file, err := parser.ParseFile(token.NewFileSet(), path, nil, parser.ParseComments)
		if err != nil {
			t.Fatal(err)
		}
		out = append(out, file)
	}
	return out
}

// allowed tells whether a package may import a path.
func allowed(path, calls string) bool {
	if own, ok := strings.CutPrefix(path, "bellwether/"); ok {
		return slices.Contains(strings.Fields(calls), own)
	}
	return slices.Contains(library(), path)
}

func TestLayersCallThoseBelow(t *testing.T) {
	for name, calls := range layers() {
		files := filesOf(t, name)
		if len(files) == 0 {
			t.Errorf("package %s is missing", name)
		}
		for _, file := range files {
			if file.Name.Name != name {
				t.Errorf("folder %s holds package %s", name, file.Name.Name)
			}
			for _, spec := range file.Imports {
				path, err := strconv.Unquote(spec.Path.Value)
				if err != nil || !allowed(path, calls) {
					t.Errorf("package %s may not import %s", name, spec.Path.Value)
				}
			}
		}
	}
}

func TestNoDirectives(t *testing.T) {
	for name := range layers() {
		for _, file := range filesOf(t, name) {
			for _, group := range file.Comments {
				for _, comment := range group.List {
					if strings.HasPrefix(comment.Text, "//go:") || strings.HasPrefix(comment.Text, "// +build") {
						t.Errorf("package %s has the line %s", name, comment.Text)
					}
				}
			}
		}
	}
}
