// Package rules holds the program's text against the rules of its language and the map of its layers.
package rules

import (
	"bytes"
	"go/ast"
	"go/format"
	"go/parser"
	"go/token"
	"os"
	"path/filepath"
	"slices"
	"strconv"
	"strings"
	"testing"
)

const root = ".."

// library is what may be imported from outside the program.
const library = " bytes cmp container/heap errors iter maps math math/bits slices sort strconv strings sync sync/atomic unicode unicode/utf8 "

// longest is how many lines a function may have.
const longest = 60

// layers is the document's map: each layer, and the ones that it stands on, beside api.
func layers() map[string]string {
	return map[string]string{
		"sha": "", "texts": "sha", "bits": "", "codec": "", "wots": "texts", "mts": "texts codec wots",
		"device": "", "seglog": "sha texts device", "arena": "texts bits", "ptree": "bits arena",
		"merkle": "texts", "change": "texts codec merkle", "record": "texts codec mts", "skip": "record",
		"admit": "codec", "ideal": "admit change bits", "path": "texts bits codec arena sha",
		"span": "texts bits codec arena path sha", "feed": "merkle change", "seek": "skip record",
		"tiers": "", "snaps": "arena ptree change admit tiers", "ledger": "codec change admit device seglog sha",
		"history": "mts device change record skip admit snaps ledger merkle", "ask": "codec change",
		"tell": "codec record path span", "query": "path span feed seek snaps history ptree",
		"verify":  "record skip path span feed seek ask tell",
		"extract": "sha texts merkle change record path span feed ask tell verify",
		"server":  "device record admit history ask tell query", "world": "device admit ask tell server",
		"census": "skip admit span tell", "versions": "bits", "audit": "arena ptree change record skip admit",
		"client": "record admit ask verify", "mirror": "admit bits server versions audit client",
		"witness": "record skip admit", "dump": "admit device change ledger history",
	}
}

// helpers is the packages beside the layers, and the layers that they stand on: all that use one may stand on these.
func helpers() map[string]string {
	return map[string]string{"parts": "texts bits codec arena", "copies": "", "fields": "codec"}
}

// source is a file of the program, no test.
type source struct {
	name, folder string
	text         []byte
	set          *token.FileSet
	file         *ast.File
}

// folders are the folders of packages: those of the tests that are laid beside the program are none of it.
func folders(t *testing.T) []string {
	entries, err := os.ReadDir(root)
	if err != nil {
		t.Fatal(err)
	}
	var out []string
	for _, e := range entries {
		if e.IsDir() && !strings.HasPrefix(e.Name(), ".") && e.Name() != "sharedtests" {
			out = append(out, e.Name())
		}
	}
	return out
}

func sources(t *testing.T) []source {
	var out []source
	for _, folder := range folders(t) {
		names, err := filepath.Glob(filepath.Join(root, folder, "*.go"))
		if err != nil {
			t.Fatal(err)
		}
		for _, name := range names {
			if strings.HasSuffix(name, "_test.go") {
				continue
			}
			s := source{name: name, folder: folder, set: token.NewFileSet()}
			if s.text, err = os.ReadFile(name); err != nil {
				t.Fatal(err)
			}
			if s.file, err = parser.ParseFile(s.set, name, s.text, parser.ParseComments); err != nil {
				t.Fatal(err)
			}
			out = append(out, s)
		}
	}
	if len(out) == 0 {
		t.Fatal("no sources")
	}
	return out
}

func TestEachLayerIsThere(t *testing.T) {
	if len(layers()) != 38 {
		t.Fatal(len(layers()), "layers")
	}
	for folder := range layers() {
		if _, err := os.Stat(filepath.Join(root, folder, folder+".go")); err != nil {
			t.Error(err)
		}
	}
}

func TestImports(t *testing.T) {
	for _, s := range sources(t) {
		for _, i := range s.file.Imports {
			path, err := strconv.Unquote(i.Path.Value)
			if err != nil {
				t.Fatal(err)
			}
			own, isOwn := strings.CutPrefix(path, "annals/")
			if !isOwn && !strings.Contains(library, " "+path+" ") {
				t.Errorf("%s imports %s", s.name, path)
			}
			stands := strings.Fields(layers()[s.folder] + helpers()[s.folder])
			if _, isLayer := layers()[own]; isLayer && !slices.Contains(stands, own) {
				t.Errorf("%s does not stand on %s", s.folder, own)
			}
			for _, layer := range strings.Fields(helpers()[own]) {
				if !slices.Contains(stands, layer) {
					t.Errorf("%s does not stand on %s, on which %s stands", s.folder, layer, own)
				}
			}
		}
	}
}

func TestLayout(t *testing.T) {
	for _, s := range sources(t) {
		if tidy, err := format.Source(s.text); err != nil || !bytes.Equal(tidy, s.text) {
			t.Errorf("%s is not laid out as gofmt does (%v)", s.name, err)
		}
	}
}

func TestNoDirectives(t *testing.T) {
	for _, s := range sources(t) {
		for _, group := range s.file.Comments {
			for _, c := range group.List {
				if strings.HasPrefix(c.Text, "//go:") || strings.HasPrefix(c.Text, "// +build") {
					t.Errorf("%s has %s", s.name, c.Text)
				}
			}
		}
	}
}

func TestFunctionsAreShort(t *testing.T) {
	for _, s := range sources(t) {
		for _, d := range s.file.Decls {
			f, ok := d.(*ast.FuncDecl)
			if !ok {
				continue
			}
			if n := s.set.Position(f.End()).Line - s.set.Position(f.Pos()).Line + 1; n > longest {
				t.Errorf("%s: %s has %d lines", s.name, f.Name.Name, n)
			}
		}
	}
}

func TestOnlyGoFiles(t *testing.T) {
	for _, folder := range folders(t) {
		entries, err := os.ReadDir(filepath.Join(root, folder))
		if err != nil {
			t.Fatal(err)
		}
		for _, e := range entries {
			if !e.IsDir() && !strings.HasSuffix(e.Name(), ".go") {
				t.Errorf("%s/%s is no Go file", folder, e.Name())
			}
		}
	}
}
