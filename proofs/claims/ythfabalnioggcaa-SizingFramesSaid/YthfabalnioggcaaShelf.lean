import Derived.Shelf.Strings.Search3
import Derived.Lib.IndexBytes
import Derived.Test.YthfabalnioggcaaProg
