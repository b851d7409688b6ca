/- A load of an address and what becomes of it, decoded, plainly. -/
import Derived.Test.YtjbepojopfbajaaDOne5
import Derived.Test.YtjbepojopfbajaaDStab3
namespace Go.Proofs.Ytjbepojopfbajaa
open Go.ChangeShapes Go.WideShapes Go.ChangeAt Go.RowKit
set_option linter.unusedVariables false
set_option linter.unusedSimpArgs false

def sevB (x y z : Int) (d : Nat → Int) (i : Nat) : Int := if i = 0 then x else if i = 1 then y else if i = 2 then z else d i
def sev (x y z : Int) (d : Nat → Int) : Ln := ⟨none, 7, 0, sevB x y z d⟩
def getI (m : Except Int (I × Nat)) : I := match m with | .ok p => p.1 | .error _ => zeroI
def I.lea (i : I) : I := ⟨2, i.sz, i.cd, i.to, i.fr, i.sh⟩
def Sev (x z : Int) (d : Nat → Int) : Prop := ∃ i : I, i.op = 1 ∧ instM (sev x 139 z d) = .ok (i, 7) ∧ instM (sev x 141 z d) = .ok (i.lea, 7)
theorem sev_72_5 (d : Nat → Int) : Sev 72 5 d := ⟨getI (instM (sev 72 139 5 d)), by kernel_rfl, by kernel_rfl, by kernel_rfl⟩
theorem sev_72_13 (d : Nat → Int) : Sev 72 13 d := ⟨getI (instM (sev 72 139 13 d)), by kernel_rfl, by kernel_rfl, by kernel_rfl⟩
theorem sev_72_21 (d : Nat → Int) : Sev 72 21 d := ⟨getI (instM (sev 72 139 21 d)), by kernel_rfl, by kernel_rfl, by kernel_rfl⟩
theorem sev_72_29 (d : Nat → Int) : Sev 72 29 d := ⟨getI (instM (sev 72 139 29 d)), by kernel_rfl, by kernel_rfl, by kernel_rfl⟩
theorem sev_72_37 (d : Nat → Int) : Sev 72 37 d := ⟨getI (instM (sev 72 139 37 d)), by kernel_rfl, by kernel_rfl, by kernel_rfl⟩
theorem sev_72_45 (d : Nat → Int) : Sev 72 45 d := ⟨getI (instM (sev 72 139 45 d)), by kernel_rfl, by kernel_rfl, by kernel_rfl⟩
theorem sev_72_53 (d : Nat → Int) : Sev 72 53 d := ⟨getI (instM (sev 72 139 53 d)), by kernel_rfl, by kernel_rfl, by kernel_rfl⟩
theorem sev_72_61 (d : Nat → Int) : Sev 72 61 d := ⟨getI (instM (sev 72 139 61 d)), by kernel_rfl, by kernel_rfl, by kernel_rfl⟩
theorem sev_76_5 (d : Nat → Int) : Sev 76 5 d := ⟨getI (instM (sev 76 139 5 d)), by kernel_rfl, by kernel_rfl, by kernel_rfl⟩
theorem sev_76_13 (d : Nat → Int) : Sev 76 13 d := ⟨getI (instM (sev 76 139 13 d)), by kernel_rfl, by kernel_rfl, by kernel_rfl⟩
theorem sev_76_21 (d : Nat → Int) : Sev 76 21 d := ⟨getI (instM (sev 76 139 21 d)), by kernel_rfl, by kernel_rfl, by kernel_rfl⟩
theorem sev_76_29 (d : Nat → Int) : Sev 76 29 d := ⟨getI (instM (sev 76 139 29 d)), by kernel_rfl, by kernel_rfl, by kernel_rfl⟩
theorem sev_76_37 (d : Nat → Int) : Sev 76 37 d := ⟨getI (instM (sev 76 139 37 d)), by kernel_rfl, by kernel_rfl, by kernel_rfl⟩
theorem sev_76_45 (d : Nat → Int) : Sev 76 45 d := ⟨getI (instM (sev 76 139 45 d)), by kernel_rfl, by kernel_rfl, by kernel_rfl⟩
theorem sev_76_53 (d : Nat → Int) : Sev 76 53 d := ⟨getI (instM (sev 76 139 53 d)), by kernel_rfl, by kernel_rfl, by kernel_rfl⟩
theorem sev_76_61 (d : Nat → Int) : Sev 76 61 d := ⟨getI (instM (sev 76 139 61 d)), by kernel_rfl, by kernel_rfl, by kernel_rfl⟩
theorem mod_rip {z : Int} (h : 0 ≤ z ∧ z < 256) (h2 : (bits .and .u8 z 199 == 5) = true) : z = 5 ∨ z = 13 ∨ z = 21 ∨ z = 29 ∨ z = 37 ∨ z = 45 ∨ z = 53 ∨ z = 61 := by
  have : ∀ k : Nat, k < 256 → (bits .and .u8 (k : Int) 199 == 5) = false ∨ (k : Int) = 5 ∨ (k : Int) = 13 ∨ (k : Int) = 21 ∨ (k : Int) = 29 ∨ (k : Int) = 37 ∨ (k : Int) = 45 ∨ (k : Int) = 53 ∨ (k : Int) = 61 := by decide +kernel
  have h3 := this z.toNat (by omega)
  rw [show ((z.toNat : Nat) : Int) = z by omega, h2] at h3
  rcases h3 with h3 | h3
  · cases h3
  · exact h3
theorem sev_any {x z : Int} (hx : x = 72 ∨ x = 76) (hz : z = 5 ∨ z = 13 ∨ z = 21 ∨ z = 29 ∨ z = 37 ∨ z = 45 ∨ z = 53 ∨ z = 61) (d : Nat → Int) : Sev x z d := by
  rcases hx with rfl | rfl
  · rcases hz with rfl | rfl | rfl | rfl | rfl | rfl | rfl | rfl
    · exact sev_72_5 d
    · exact sev_72_13 d
    · exact sev_72_21 d
    · exact sev_72_29 d
    · exact sev_72_37 d
    · exact sev_72_45 d
    · exact sev_72_53 d
    · exact sev_72_61 d
  · rcases hz with rfl | rfl | rfl | rfl | rfl | rfl | rfl | rfl
    · exact sev_76_5 d
    · exact sev_76_13 d
    · exact sev_76_21 d
    · exact sev_76_29 d
    · exact sev_76_37 d
    · exact sev_76_45 d
    · exact sev_76_53 d
    · exact sev_76_61 d
/-- One at such a place. -/
theorem one_sev {n : Nat} {f : Nat → Int} {a : Nat} {x y z : Int} {d : Nat → Int} {i : I} (h : instM (sev x y z d) = .ok (i, 7)) (ha : a + 7 ≤ n) (h0 : f a = x) (h1 : f (a + 1) = y) (h2 : f (a + 2) = z) (hd : ∀ k, 3 ≤ k → k < 7 → f (a + k) = d k) : oneM n f a = (i, 7, 0) := by
  have hl : Like (sev x y z d) (cut n f a) 7 := ⟨fun k hk => by
    show f (a + k) = sevB x y z d k
    unfold sevB
    by_cases e0 : k = 0
    · subst e0; rw [if_pos rfl]; exact h0
    · by_cases e1 : k = 1
      · subst e1; rw [if_neg e0, if_pos rfl]; exact h1
      · by_cases e2 : k = 2
        · subst e2; rw [if_neg e0, if_neg e1, if_pos rfl]; exact h2
        · rw [if_neg e0, if_neg e1, if_neg e2]; exact hd k (by omega) hk, by show 7 ≤ n - a; omega⟩
  have h3 := (inst_like h hl (by show 7 ≤ 7; omega)).1
  unfold oneM
  rw [if_neg (by omega), show ((a : Nat) : Int).toNat = a by omega, h3]
  rfl
end Go.Proofs.Ytjbepojopfbajaa
