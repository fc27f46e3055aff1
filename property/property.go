// Package property numbers the properties, and tells which words each one takes: what the layers that tell one from another have in common.
package property

// The properties' numbers.
const (
	Display = iota + 1
	BoxSizing
	Width
	Height
	MinWidth
	MinHeight
	MaxWidth
	MaxHeight
	MarginTop
	MarginRight
	MarginBottom
	MarginLeft
	PaddingTop
	PaddingRight
	PaddingBottom
	PaddingLeft
	BorderTopWidth
	BorderRightWidth
	BorderBottomWidth
	BorderLeftWidth
	AspectRatio
	FlexDirection
	FlexWrap
	FlexGrow
	FlexShrink
	FlexBasis
	Order
	JustifyContent
	AlignItems
	AlignSelf
	AlignContent
	RowGap
	ColumnGap
	ContainerType
	ContainerName
	FontSize
	LineHeight
)

// Words answers the words that a property takes, but for those that every one takes: they stand in the order in which styles count them.
func Words(p int) []string {
	switch p {
	case Display:
		return []string{"block", "flex", "none"}
	case BoxSizing:
		return []string{"content-box", "border-box"}
	case Width, MinWidth:
		return []string{"auto", "min-content", "max-content", "fit-content"}
	case MaxWidth:
		return []string{"none", "min-content", "max-content", "fit-content"}
	case Height, MinHeight, AspectRatio, MarginTop, MarginRight, MarginBottom, MarginLeft:
		return []string{"auto"}
	case MaxHeight, ContainerName:
		return []string{"none"}
	case FlexDirection:
		return []string{"row", "row-reverse", "column", "column-reverse"}
	case FlexWrap:
		return []string{"nowrap", "wrap", "wrap-reverse"}
	case FlexBasis:
		return []string{"auto", "content"}
	case JustifyContent:
		return []string{"start", "end", "center", "space-between", "space-around", "space-evenly"}
	case AlignItems:
		return []string{"stretch", "start", "end", "center"}
	case AlignSelf:
		return []string{"auto", "stretch", "start", "end", "center"}
	case AlignContent:
		return []string{"stretch", "start", "end", "center", "space-between", "space-around", "space-evenly"}
	case RowGap, ColumnGap, LineHeight:
		return []string{"normal"}
	case ContainerType:
		return []string{"normal", "inline-size", "size"}
	}
	return nil
}
