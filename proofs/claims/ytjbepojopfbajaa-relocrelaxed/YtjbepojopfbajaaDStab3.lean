/- An instruction hangs on no byte behind it. -/
import Derived.Test.YtjbepojopfbajaaDStab2
namespace Go.Proofs.Ytjbepojopfbajaa
open Go.ChangeShapes Go.WideShapes Go.ChangeAt Go.RowKit
set_option linter.unusedVariables false
set_option linter.unusedSimpArgs false

theorem preO_like {L M : Ln} {n a : Nat} {fs : Bool} {rex x : Int} {t : Nat × Bool × Int × Int} (h : preO L a fs rex x = .ok t) (k : Like L M n) (hn : t.1 ≤ n) : preO M a fs rex x = .ok t ∧ a ≤ t.1 := by
  obtain ⟨e, l⟩ := preO_stab fs rex x L M n a (t.2, t.1) (by show (preO L a fs rex x >>= _) = _; rw [h]; rfl) k hn
  obtain ⟨u, e1, e2⟩ := bind_ok e
  have e3 : (u.2, u.1) = (t.2, t.1) := by injection e2
  have e4 : u = t := by
    obtain ⟨u1, u2⟩ := u
    obtain ⟨t1, t2⟩ := t
    simp only [Prod.mk.injEq] at e3
    rw [e3.1, e3.2]
  rw [← e4]
  exact ⟨e1, by rw [e4]; exact l⟩
theorem preR_like {L M : Ln} {n a : Nat} {fs : Bool} {x : Int} {t : Nat × Bool × Int × Int} (h : preR L a fs x = .ok t) (k : Like L M n) (hn : t.1 ≤ n) : preR M a fs x = .ok t ∧ a ≤ t.1 := by
  unfold preR at h ⊢
  split at h
  · rename_i c
    obtain ⟨hb, h3⟩ := must_ok h
    obtain ⟨q, h4, h5⟩ := bind_ok h3
    obtain ⟨e2, l2⟩ := preO_like h5 k hn
    obtain ⟨e1, l1⟩ := nxt_like h4 k (Nat.le_trans l2 hn)
    refine ⟨?_, Nat.le_trans l1 l2⟩
    rw [if_pos c, hb, must_true, e1]
    exact e2
  · rename_i c
    rw [if_neg c]
    exact preO_like h k hn
theorem pre_like {L M : Ln} {n : Nat} {t : Nat × Bool × Int × Int} (h : pre L = .ok t) (k : Like L M n) (hn : t.1 ≤ n) : pre M = .ok t ∧ 1 ≤ t.1 := by
  unfold pre at h ⊢
  obtain ⟨p, h1, h2⟩ := bind_ok h
  have hp := (nxt_ok h1).2
  split at h2
  · rename_i c
    obtain ⟨q, h3, h4⟩ := bind_ok h2
    have hq := (nxt_ok h3).2
    obtain ⟨e3, l3⟩ := preR_like h4 k hn
    obtain ⟨e2, l2⟩ := nxt_like h3 k (by rw [hq]; show 2 ≤ n; omega)
    obtain ⟨e1, l1⟩ := nxt_like h1 k (by rw [hp]; show 1 ≤ n; omega)
    refine ⟨?_, by omega⟩
    rw [e1]
    show (if _ then _ else _) = _
    rw [if_pos c, e2]
    exact e3
  · rename_i c
    obtain ⟨e3, l3⟩ := preR_like h2 k hn
    obtain ⟨e1, l1⟩ := nxt_like h1 k (by rw [hp]; show 1 ≤ n; omega)
    refine ⟨?_, by omega⟩
    rw [e1]
    show (if _ then _ else _) = _
    rw [if_neg c]
    exact e3

theorem inst_like {L M : Ln} {n : Nat} {p : I × Nat} (h : instM L = .ok p) (k : Like L M n) (hn : p.2 ≤ n) : instM M = .ok p ∧ 1 ≤ p.2 := by
  unfold instM at h ⊢
  obtain ⟨t, h1, h2⟩ := bind_ok h
  rcases hq : rowM t.2.2.2 with _ | q
  · rw [hq] at h2; cases h2
  rw [hq] at h2
  simp only at h2
  obtain ⟨sz, h3, h4⟩ := bind_ok h2
  obtain ⟨v, h5, h6⟩ := bind_ok h4
  obtain ⟨r, h7, h8⟩ := bind_ok h6
  obtain ⟨op, h9, h10⟩ := bind_ok h8
  obtain ⟨e4, l4⟩ := read_stab q.f t.2.1 t.2.2.1 t.2.2.2 sz r.1.1 r.1.2.1 r.1.2.2 ⟨op, sz, condM t.2.2.2 q, zeroO, zeroO, false⟩ L M n r.2 p h10 k hn
  obtain ⟨e3, l3⟩ := mod_stab t.2.1 t.2.2.1 sz q L M n t.1 r h7 k (Nat.le_trans l4 hn)
  obtain ⟨e1, l1⟩ := pre_like h1 k (Nat.le_trans l3 (Nat.le_trans l4 hn))
  have e3' : modM M t.1 t.2.1 t.2.2.1 sz q = .ok r := e3
  refine ⟨?_, Nat.le_trans l1 (Nat.le_trans l3 l4)⟩
  rw [e1]
  show (match rowM t.2.2.2 with | none => _ | some q => _) = _
  rw [hq]
  show (sizeM _ _ _ >>= _) = _
  rw [h3]
  show (setA _ _ _ _ >>= _) = _
  rw [h5]
  show (modM M _ _ _ _ _ >>= _) = _
  rw [e3']
  show (opM _ _ _ >>= _) = _
  rw [h9]
  exact e4
end Go.Proofs.Ytjbepojopfbajaa
