/- What is read hangs on no byte behind it. -/
import Derived.Test.YtjbepojopfbajaaDOne5
namespace Go.Proofs.Ytjbepojopfbajaa
open Go.ChangeShapes Go.WideShapes Go.ChangeAt Go.RowKit
set_option linter.unusedVariables false
set_option linter.unusedSimpArgs false

/-- Other bytes that are the same up to n. -/
structure Like (L M : Ln) (n : Nat) : Prop where
  bs : ∀ i, i < n → M.bs i = L.bs i
  le : n ≤ M.len

theorem nxt_like {L M : Ln} {n a : Nat} {p : Int × Nat} (h : nxt L a = .ok p) (k : Like L M n) (hn : p.2 ≤ n) : nxt M a = .ok p ∧ a ≤ p.2 := by
  obtain ⟨hl, rfl⟩ := nxt_ok h
  have h2 : a + 1 ≤ n := hn
  have := k.le
  refine ⟨?_, by show a ≤ a + 1; omega⟩
  unfold nxt
  rw [if_pos (by omega), k.bs a (by omega)]

theorem bacc_like {L M : Ln} {n : Nat} (k : Like L M n) (a : Nat) : ∀ s, a + s ≤ n → bacc M.bs a s = bacc L.bs a s
  | 0, _ => rfl
  | s + 1, h => by
    show bacc M.bs a s + M.bs (a + s) * _ = bacc L.bs a s + L.bs (a + s) * _
    rw [bacc_like k a s (by omega), k.bs (a + s) (by omega)]

theorem num_like {L M : Ln} {n a s : Nat} {p : Int × Nat} (h : num L a s = .ok p) (k : Like L M n) (hn : p.2 ≤ n) : num M a s = .ok p ∧ a ≤ p.2 := by
  unfold num at h
  split at h
  · cases h
    have h2 : a + s ≤ n := hn
    have := k.le
    refine ⟨?_, by show a ≤ a + s; omega⟩
    unfold num
    rw [if_pos (by omega), bacc_like k a s h2]
  · cases h

theorem lng_like {L M : Ln} {n a s f : Nat} {p : Int × Nat} (h : lng L a s f = .ok p) (k : Like L M n) (hn : p.2 ≤ n) : lng M a s f = .ok p ∧ a ≤ p.2 := by
  unfold lng at h
  obtain ⟨q, h1, h2⟩ := bind_ok h
  obtain ⟨hb, h3⟩ := must_ok h2
  cases h3
  obtain ⟨e, l⟩ := num_like h1 k hn
  refine ⟨?_, l⟩
  unfold lng
  rw [e]
  show must _ _ = _
  rw [hb]; rfl

theorem disp_like {L M : Ln} {n a : Nat} {md b : Int} {p : Int × Nat} (h : dispM L a md b = .ok p) (k : Like L M n) (hn : p.2 ≤ n) : dispM M a md b = .ok p ∧ a ≤ p.2 := by
  unfold dispM at h ⊢
  split at h
  · rename_i c; rw [if_pos c]; exact num_like h k hn
  · rename_i c
    rw [if_neg c]
    split at h
    · rename_i d; rw [if_pos d]; cases h; exact ⟨rfl, Nat.le_refl _⟩
    · rename_i d
      rw [if_neg d]
      obtain ⟨q, h1, h2⟩ := bind_ok h
      obtain ⟨hb, h3⟩ := must_ok h2
      cases h3
      obtain ⟨e, l⟩ := num_like h1 k hn
      refine ⟨?_, l⟩
      rw [e]
      show must _ _ = _
      rw [hb]; rfl

theorem mem_like {L M : Ln} {n a : Nat} {fs : Bool} {rex md rm : Int} {p : O × Nat} (h : memM L a fs rex md rm = .ok p) (k : Like L M n) (hn : p.2 ≤ n) : memM M a fs rex md rm = .ok p ∧ a ≤ p.2 := by
  unfold memM at h ⊢
  split at h
  · rename_i c; rw [if_pos c]; cases h; exact ⟨rfl, Nat.le_refl _⟩
  · rename_i c
    rw [if_neg c]
    split at h
    · rename_i d; rw [if_pos d]; cases h; exact ⟨rfl, Nat.le_refl _⟩
    · rename_i d
      rw [if_neg d]
      split at h
      · rename_i e; rw [if_pos e]
        obtain ⟨q, h1, h2⟩ := bind_ok h
        obtain ⟨hb, h3⟩ := must_ok h2
        cases h3
        obtain ⟨e1, l⟩ := nxt_like h1 k hn
        refine ⟨?_, l⟩
        rw [e1]
        show must _ _ = _
        rw [hb]; rfl
      · rename_i e; rw [if_neg e]
        obtain ⟨q, h1, h2⟩ := bind_ok h
        obtain ⟨t, h3, h4⟩ := bind_ok h2
        cases h4
        obtain ⟨e1, l⟩ := nxt_like h1 k hn
        refine ⟨?_, l⟩
        rw [e1]
        show (sibA rex md q.1 >>= _) = _
        rw [h3]; rfl

theorem place_like {L M : Ln} {n a : Nat} {fs : Bool} {rex md rm : Int} {p : O × Nat} (h : placeM L a fs rex md rm = .ok p) (k : Like L M n) (hn : p.2 ≤ n) : placeM M a fs rex md rm = .ok p ∧ a ≤ p.2 := by
  unfold placeM at h ⊢
  split at h
  · rename_i c; rw [if_pos c]; cases h; exact ⟨rfl, Nat.le_refl _⟩
  · rename_i c
    rw [if_neg c]
    obtain ⟨q, h1, h2⟩ := bind_ok h
    obtain ⟨d, h3, h4⟩ := bind_ok h2
    cases h4
    obtain ⟨e2, l2⟩ := disp_like h3 k hn
    obtain ⟨e1, l1⟩ := mem_like h1 k (Nat.le_trans l2 hn)
    refine ⟨?_, Nat.le_trans l1 l2⟩
    rw [e1]
    show (dispM M q.2 md q.1.b >>= _) = _
    rw [e2]; rfl
end Go.Proofs.Ytjbepojopfbajaa
