/- The contract of strconv.Itoa in this program, by the library's. -/
import Derived.Test.YtdgejingoamfeaaDoorSmall
import Derived.Lib.LaidTab
import Derived.Lib.AppendIntMem
import Derived.Shelf.Strconv.Itoa3
namespace Go.Proofs.YtdgejingoamfeaaDoor
open Go.RowKit Go.Shelf
set_option linter.unusedVariables false

theorem lays171 : LaysM.n171 Tryd.prog { f := fun k => if k = 129 then 109 else if k = 171 then 69 else if k = 243 then 92 else if k = 246 then 100 else if k = 283 then 103 else if k = 284 then 104 else if k = 285 then 105 else if k = 286 then 106 else if k = 317 then 108 else if k = 318 then 110 else if k = 319 then 111 else if k = 320 then 112 else if k = 337 then 114 else if k = 338 then 115 else 0, t := fun k => if k = 37 then 84 else if k = 46 then 85 else if k = 51 then 103 else if k = 53 then 96 else if k = 171 then 95 else if k = 173 then 99 else if k = 212 then 102 else if k = 213 then 104 else if k = 232 then 107 else if k = 233 then 108 else k, g := fun k => if k = 17 then 4 else if k = 18 then 6 else if k = 19 then 7 else 0 } :=
  { mixed := by kernel_rfl
    f129 := Tryd.func109.trans (congrArg some (by kernel_rfl))
    f171 := Tryd.func69.trans (congrArg some (by kernel_rfl))
    f243 := Tryd.func92.trans (congrArg some (by kernel_rfl))
    f246 := Tryd.func100.trans (congrArg some (by kernel_rfl))
    f283 := Tryd.func103.trans (congrArg some (by kernel_rfl))
    f284 := Tryd.func104.trans (congrArg some (by kernel_rfl))
    f285 := Tryd.func105.trans (congrArg some (by kernel_rfl))
    f286 := Tryd.func106.trans (congrArg some (by kernel_rfl))
    f317 := Tryd.func108.trans (congrArg some (by kernel_rfl))
    f318 := Tryd.func110.trans (congrArg some (by kernel_rfl))
    f319 := Tryd.func111.trans (congrArg some (by kernel_rfl))
    f320 := Tryd.func112.trans (congrArg some (by kernel_rfl))
    f337 := Tryd.func114.trans (congrArg some (by kernel_rfl))
    f338 := Tryd.func115.trans (congrArg some (by kernel_rfl))
    t0 := by kernel_rfl
    a0 := fun _ => by kernel_rfl
    z0 := fun _ => by kernel_rfl
    v0 := fun _ => by kernel_rfl
    t2 := by kernel_rfl
    a2 := fun _ => by kernel_rfl
    z2 := fun _ => by kernel_rfl
    v2 := fun _ => by kernel_rfl
    t3 := by kernel_rfl
    a3 := fun _ => by kernel_rfl
    z3 := fun _ => by kernel_rfl
    v3 := fun _ => by kernel_rfl
    t4 := by kernel_rfl
    a4 := fun _ => by kernel_rfl
    z4 := fun _ => by kernel_rfl
    v4 := fun _ => by kernel_rfl
    t5 := by kernel_rfl
    a5 := fun _ => by kernel_rfl
    z5 := fun _ => by kernel_rfl
    v5 := fun _ => by kernel_rfl
    t9 := by kernel_rfl
    a9 := fun _ => by kernel_rfl
    z9 := fun _ => by kernel_rfl
    v9 := fun _ => by kernel_rfl
    t20 := by kernel_rfl
    a20 := fun _ => by kernel_rfl
    z20 := fun _ => by kernel_rfl
    v20 := fun _ => by kernel_rfl
    t37 := by kernel_rfl
    a37 := fun _ => by kernel_rfl
    z37 := fun _ => by kernel_rfl
    v37 := fun _ => by kernel_rfl
    t46 := by kernel_rfl
    a46 := fun _ => by kernel_rfl
    z46 := fun _ => by kernel_rfl
    v46 := fun _ => by kernel_rfl
    t51 := by kernel_rfl
    a51 := fun _ => by kernel_rfl
    z51 := fun _ => by kernel_rfl
    v51 := fun _ => by kernel_rfl
    t53 := by kernel_rfl
    a53 := fun _ => by kernel_rfl
    z53 := fun _ => by kernel_rfl
    v53 := fun _ => by kernel_rfl
    t171 := by kernel_rfl
    a171 := fun _ => by kernel_rfl
    z171 := fun _ => by kernel_rfl
    v171 := fun _ => by kernel_rfl
    t173 := by kernel_rfl
    a173 := fun _ => by kernel_rfl
    z173 := fun _ => by kernel_rfl
    v173 := fun _ => by kernel_rfl
    t212 := by kernel_rfl
    a212 := fun _ => by kernel_rfl
    z212 := fun _ => by kernel_rfl
    v212 := fun _ => by kernel_rfl
    t213 := by kernel_rfl
    a213 := fun _ => by kernel_rfl
    z213 := fun _ => by kernel_rfl
    t232 := by kernel_rfl
    a232 := fun _ => by kernel_rfl
    z232 := fun _ => by kernel_rfl
    v232 := fun _ => by kernel_rfl
    t233 := by kernel_rfl
    a233 := fun _ => by kernel_rfl
    z233 := fun _ => by kernel_rfl
    v233 := fun _ => by kernel_rfl
    g17 := by kernel_rfl
    g18 := by kernel_rfl
    g19 := by kernel_rfl
    i0 := by kernel_rfl
    i2 := by kernel_rfl
    i3 := by kernel_rfl
    i4 := by kernel_rfl
    i5 := by kernel_rfl
    i9 := by kernel_rfl
    i20 := by kernel_rfl
    i37 := by kernel_rfl
    i46 := by kernel_rfl
    i51 := by kernel_rfl
    i53 := by kernel_rfl
    i171 := by kernel_rfl
    i173 := by kernel_rfl
    i212 := by kernel_rfl
    i232 := by kernel_rfl
    i233 := by kernel_rfl
    m17 := by kernel_rfl
    m18 := by kernel_rfl
    m19 := by kernel_rfl }

/-- The tables, and that of the powers of ten. -/
structure Gp (w : World) : Prop where
  g : Gl w
  t : Lib.TabIs Tryd.prog w "internal/strconv.uint64pow10" .u64 Lib.pow10Tab
theorem Gp.bel {w w' : World} (h : Gp w) (hb : Below w.heap.size w w') : Gp w' := ⟨h.g.bel hb, Lib.tabBelow_of_tabIs h.t w' hb⟩
theorem Gp.alloc {w : World} (h : Gp w) (o : Obj) : Gp (w.alloc o) := h.bel (bel_alloc (Below.refl _ _) o)

theorem bel_grow (w : World) (os : Array Obj) : Below w.heap.size w (Sort.grow w os) :=
  ⟨rfl, rfl, rfl, by simp [Sort.grow], fun k hk => by simp [Sort.grow, Array.getElem?_append_left hk]⟩

abbrev itoaS (n : Int) : ByteArray := ⟨(Lib.itoa n).toArray⟩

theorem itoa_any (n : Int) (w : World) (h0 : -9223372036854775808 ≤ n) (h1 : n ≤ 9223372036854775807) (hw : Gp w) :
    Calls Tryd.prog 69 #[.int .i64 n] w fun e w' => e = .returned (.string (itoaS n)) ∧ Below w.heap.size w w' := by
  refine (Any.strconv_Itoa lays171 n h0 h1 w hw.t).mono ?_
  rintro e w' ⟨he, k, os, rfl⟩
  refine ⟨he, ?_⟩
  have h2 := below_drewN (Below.refl w.heap.size w) k
  exact bel_trans h2 (bel_grow _ _)
end Go.Proofs.YtdgejingoamfeaaDoor
