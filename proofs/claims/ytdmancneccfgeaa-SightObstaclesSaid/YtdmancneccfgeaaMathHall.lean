/-
  Halls as plain values. No program is spoken of here.
-/
namespace Foyer.Hall

structure MarkZ where
  kind : Int
  seat : Int
  other : Int
deriving DecidableEq
structure RowZ where
  name : List UInt8
  x : Int
  y : Int
  first : Int
  last : Int
  step : Int
  marks : List MarkZ
  pos : Int
deriving DecidableEq
structure BlockZ where
  name : List UInt8
  rows : List RowZ
  pos : Int
deriving DecidableEq
structure BoxZ where
  x : Int
  y : Int
  x2 : Int
  y2 : Int
deriving DecidableEq
structure AreaZ where
  name : List UInt8
  box : BoxZ
  holds : Int
  pos : Int
deriving DecidableEq
structure PointZ where
  x : Int
  y : Int
deriving DecidableEq
structure LevelZ where
  name : List UInt8
  height : Int
  blocks : List BlockZ
  areas : List AreaZ
  aisles : List BoxZ
  pillars : List BoxZ
  doors : List PointZ
  pos : Int
deriving DecidableEq
structure HallZ where
  name : List UInt8
  stage : PointZ
  levels : List LevelZ
deriving DecidableEq
end Foyer.Hall
