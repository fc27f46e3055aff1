package property_test

import (
	"math"
	"slices"
	"strings"
	"testing"

	"wainscot/prop"
	"wainscot/property"
	"wainscot/value"
)

// TestNumbers: each number is that of the property with its name.
func TestNumbers(t *testing.T) {
	for name, p := range map[string]int{
		"display": property.Display, "box-sizing": property.BoxSizing, "width": property.Width, "height": property.Height, "min-width": property.MinWidth, "min-height": property.MinHeight, "max-width": property.MaxWidth, "max-height": property.MaxHeight,
		"margin-top": property.MarginTop, "margin-right": property.MarginRight, "margin-bottom": property.MarginBottom, "margin-left": property.MarginLeft,
		"padding-top": property.PaddingTop, "padding-right": property.PaddingRight, "padding-bottom": property.PaddingBottom, "padding-left": property.PaddingLeft,
		"border-top-width": property.BorderTopWidth, "border-right-width": property.BorderRightWidth, "border-bottom-width": property.BorderBottomWidth, "border-left-width": property.BorderLeftWidth,
		"aspect-ratio": property.AspectRatio, "flex-direction": property.FlexDirection, "flex-wrap": property.FlexWrap, "flex-grow": property.FlexGrow, "flex-shrink": property.FlexShrink, "flex-basis": property.FlexBasis, "order": property.Order,
		"justify-content": property.JustifyContent, "align-items": property.AlignItems, "align-self": property.AlignSelf, "align-content": property.AlignContent, "row-gap": property.RowGap, "column-gap": property.ColumnGap,
		"container-type": property.ContainerType, "container-name": property.ContainerName, "font-size": property.FontSize, "line-height": property.LineHeight,
	} {
		if prop.Named(name) != p {
			t.Errorf("%s: %d, not %d", name, p, prop.Named(name))
		}
	}
	if property.LineHeight != prop.Count {
		t.Errorf("the last one is %d", property.LineHeight)
	}
}

// TestWords: the words of each property, in the order of its row.
func TestWords(t *testing.T) {
	rows := map[string]string{
		"display": "block flex none", "box-sizing": "content-box border-box", "width": "auto min-content max-content fit-content", "min-width": "auto min-content max-content fit-content", "height": "auto", "min-height": "auto", "max-width": "none min-content max-content fit-content", "max-height": "none",
		"margin-top": "auto", "margin-right": "auto", "margin-bottom": "auto", "margin-left": "auto", "aspect-ratio": "auto",
		"flex-direction": "row row-reverse column column-reverse", "flex-wrap": "nowrap wrap wrap-reverse", "flex-basis": "auto content",
		"justify-content": "start end center space-between space-around space-evenly", "align-items": "stretch start end center", "align-self": "auto stretch start end center", "align-content": "stretch start end center space-between space-around space-evenly",
		"row-gap": "normal", "column-gap": "normal", "container-type": "normal inline-size size", "container-name": "none", "line-height": "normal",
	}
	for p := 1; p <= prop.Count; p++ {
		got := property.Words(p)
		if !slices.Equal(got, strings.Fields(rows[prop.Name(p)])) {
			t.Errorf("%s: %q", prop.Name(p), got)
		}
		for _, w := range got {
			if value.Word(w) == 0 {
				t.Errorf("%s: %q is no word", prop.Name(p), w)
			}
		}
		// What is answered is new.
		for i := range got {
			got[i] = "x"
		}
		if slices.Contains(property.Words(p), "x") {
			t.Errorf("%s: its words are kept", prop.Name(p))
		}
	}
	for _, p := range []int{math.MinInt, -1, 0, 38, 1<<32 + 1, math.MaxInt} {
		if got := property.Words(p); got != nil {
			t.Errorf("%d: %q", p, got)
		}
	}
}
