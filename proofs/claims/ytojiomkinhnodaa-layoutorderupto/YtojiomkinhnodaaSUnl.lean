/- The contract of areUnlike: a map by names and bindings. -/
import Derived.Test.YtojiomkinhnodaaSNum2
import Derived.DeepKeys4
import Derived.ChangeKeys
namespace Go.Proofs.Ytojiomkinhnodaa
open Go.ChangeShapes Go.WideShapes Go.ChangeAt Go.RowKit Go.Maps
set_option linter.unusedVariables false
set_option linter.unusedSimpArgs false

/-- A key's reading. -/
def ko (s : ByteArray) (b : Bool) : Lit := .string (keyBytes [.string s.data.toList, .bool b])
theorem ko_key (s : ByteArray) (b : Bool) : WideAt.IsKeyLit (ko s b) := trivial
theorem ko_inj {s t : ByteArray} {a b : Bool} (hs : s.size ≤ maxLen) (ht : t.size ≤ maxLen) (h : ko s a = ko t b) : s = t ∧ a = b := by
  unfold ko at h
  injection h with h
  have := keyBytes_inj (l := [.string s.data.toList, .bool a]) (l' := [.string t.data.toList, .bool b]) ⟨trivial, trivial, trivial⟩ (by
    intro x hx
    simp at hx
    rcases hx with rfl | rfl
    · simpa [Lit.keyWf] using hs
    · trivial) (by
    intro x hx
    simp at hx
    rcases hx with rfl | rfl
    · simpa [Lit.keyWf] using ht
    · trivial) h
  simp only [List.cons.injEq, Lit.string.injEq, Lit.bool.injEq, and_true] at this
  exact ⟨ByteArray.ext (Array.toList_inj.1 this.1), this.2⟩

theorem laidOutU : laidOutB Try.prog = true := by kernel_rfl
theorem rowO : (160 : TypeId) < Try.prog.types.size := of_decide_eq_true (by kernel_rfl)
theorem wideO : (match Try.prog.underlying 160 with | some (.array _ _) | some (.struct _) => true | _ => false) = true := by kernel_rfl
set_option maxRecDepth 100000 in
theorem lawO : Keyed Try.prog 160 := Keyed.of_law (deep_law_laid laidOutU (m := 2) (by omega) rowO (by kernel_rfl) wideO)
theorem cellsO : Try.prog.cellsOf 160 = 2 := by kernel_rfl
theorem keyTypeO : Try.prog.keyType 160 = true := by kernel_rfl
theorem sizeN {k : Nat} (h : 160 < k) : ∃ n, k + 1 = n + 2 := ⟨k - 1, by omega⟩
theorem typesN : ∃ n, Try.prog.types.size + 1 = n + 2 := sizeN rowO

theorem keyO (s : ByteArray) (b : Bool) (h : s.size ≤ maxLen) : keyOf Try.prog 160 (.agg #[.string s, .bool b]) = some (ko s b) := by
  have c9 : Try.prog.cellsOf 9 = 1 := by kernel_rfl
  have c4 : Try.prog.cellsOf 4 = 1 := by kernel_rfl
  obtain ⟨n, hn⟩ := typesN
  unfold keyOf
  rw [Try.underlying160]
  simp only [keyTypeO, Value.formed, Try.underlying160, cellsO, hn]
  simp [Program.keyLits, Try.underlying160, Try.underlying9, Try.underlying4, cellsO, c9, c4, Value.cells, h, ko]

/-- Which names stand there, Local ones and others. -/
def fput (f : ByteArray → Bool → Bool) (s : ByteArray) (b : Bool) (t : ByteArray) (c : Bool) : Bool := decide (t = s ∧ c = b) || f t c
/-- No two have one name, but empty ones. -/
def unlF : List Sym → (ByteArray → Bool → Bool) → Bool
  | [], _ => true
  | s :: r, f => if f s.nm (s.b == 0) && !empB s.nm then false else unlF r (fput f s.nm (s.b == 0))
def unlB (l : List Sym) : Bool := unlF l fun _ _ => false

/-- The set D holds just what f says. -/
structure InvU (D : DataW Value) (f : ByteArray → Bool → Bool) : Prop where
  is : IsMap D
  at' : ∀ t b, t.size ≤ maxLen → has D (ko t b) = f t b
theorem InvU.none : InvU (.map []) (fun _ _ => false) := ⟨isMap_empty, fun t b _ => by simp [has]⟩
theorem InvU.put {D : DataW Value} {f : ByteArray → Bool → Bool} (h : InvU D f) (s : ByteArray) (b : Bool) (hs : s.size ≤ maxLen) (d : DataW Value) : InvU (D.put (ko s b) d) (fput f s b) := by
  refine ⟨h.is.put _ _, fun t c ht => ?_⟩
  unfold fput
  by_cases e : t = s ∧ c = b
  · obtain ⟨rfl, rfl⟩ := e
    rw [has_put_same h.is (ko_key _ _)]
    simp
  · have e' : ko t c ≠ ko s b := fun h => e (ko_inj ht hs h)
    rw [has_put_other e', h.at' t c ht, decide_eq_false e]
    rfl

theorem make_mapU (w : World) : (Instr.makeMap 158 none).run Try.prog w = .ok (.map (some w.heap.size)) (w.alloc (.map #[] 0)) := by kernel_rfl
theorem zeroU (w : World) : (zeroValue 161).run Try.prog w = .ok (.agg #[]) w := by kernel_rfl

set_option maxHeartbeats 2000000 in
set_option maxRecDepth 10000 in
theorem areUnlike_any (ao : Option Addr) (c : Nat) (l : List Sym) (w : World) (hl : l.length ≤ 8796093022207) (hr : Syms w ao l) (hsz : ∀ s ∈ l, s.nm.size ≤ 9223372036854775807) :
    Calls Try.prog 79 #[.slice ao l.length c] w fun e w' => e = .returned (.bool (unlB l)) ∧ Below w.heap.size w w' := by
  have hm := make_mapU
  have HR : Hid _ := ⟨hr⟩
  have HZ : Hid _ := ⟨hsz⟩
  obtain ⟨M, HM⟩ : ∃ M, Hid (unlB l = M) := ⟨_, ⟨rfl⟩⟩
  rw [HM.out]
  clear hr hsz
  go_enter Try.func79, Try.ntmps79
  go_wp2
  go_loopw [12] (fun i wr => ∃ (k : Nat) (f : ByteArray → Bool → Bool), k ≤ l.length ∧ i = .int .i64 k ∧ Hid ((∃ n D, n ≤ k ∧ wr.ownsMap Try.prog 160 unitElem w.heap.size n D ∧ InvU D f) ∧ Below w.heap.size w wr) ∧ Hid (unlB l = unlF (l.drop k) f)) (fun i _ => l.length - (intOf i).toNat)
  case atStart => exact ⟨0, fun _ _ => false, by omega, rfl, ⟨⟨0, _, by omega, World.ownsMap_made _ _ _ _, InvU.none⟩, (Below.refl _ _).alloc (Nat.le_refl _) _⟩, ⟨by simp [unlB]⟩⟩
  case round =>
    obtain ⟨k, f, hk, rfl, HW, HF⟩ := hrel
    obtain ⟨⟨n, D, hn, hown, hinv⟩, hbel⟩ := HW.out
    by_cases hlt : k < l.length
    · obtain ⟨b, off, rfl, hcell⟩ : ∃ b off, ao = some ⟨b, off, none⟩ ∧ ∀ i, i < l.length → SymAt wr b (off + i * 6) (l.getD i Sym.none) := by
        rcases HR.out.below hbel (Nat.le_refl _) with h | h
        · subst h; simp at hlt
        · exact h
      obtain ⟨c0, c1, c2, c3, c4, c5⟩ := hcell k hlt
      have hget : l.getD k Sym.none = l[k] := by simp [hlt]
      rw [hget] at c0 c1 c2 c3 c4 c5
      have F : unlF (l.drop k) f = if f l[k].nm (l[k].b == 0) && !empB l[k].nm then false else unlF (l.drop (k + 1)) (fput f l[k].nm (l[k].b == 0)) := by
        rw [List.drop_eq_getElem_cons hlt]; rfl
      have hsz : l[k].nm.size ≤ maxLen := by
        have := HZ.out _ (List.getElem_mem hlt)
        unfold maxLen; omega
      generalize l[k] = s at *
      obtain ⟨nm, sc, v, z, bd, ty⟩ := s
      dsimp only at *
      obtain ⟨lo, hlo⟩ : ∃ x, (bd == 0) = x := ⟨_, rfl⟩
      rw [hlo] at F
      have hq := hinv.at' nm lo hsz
      obtain ⟨q, hqq⟩ : ∃ q, f nm lo = q := ⟨_, rfl⟩
      rw [hqq] at hq F
      unfold empB at F
      obtain ⟨em, hem⟩ : ∃ q, nm.toList.isEmpty = q := ⟨_, rfl⟩
      rw [hem] at F
      have HFF : Hid _ := ⟨F⟩
      have HQ : Hid _ := ⟨hq⟩
      have HS : Hid _ := ⟨hsz⟩
      have HOW : Hid _ := ⟨hown⟩
      have HIN : Hid _ := ⟨hinv⟩
      have HBE : Hid _ := ⟨hbel⟩
      clear F hq hsz hown hinv hbel hcell hget hqq HW
      cases q
      · cases em
        all_goals
          go_wp2_with (first
            | (at_lookup; refine wpList_lookup_own_unit _ rfl _ _ 158 rfl 160 161 lawO Try.underlying158 (zeroU _) w.heap.size n D rfl ((HOW.out.alloc _).alloc _) _ _ rfl (keyO _ _ HS.out) ?_; rw [HQ.out])
            | (at_mapUpdate; refine wpList_mapUpdate_own _ rfl _ _ _ 158 rfl 160 161 lawO Try.underlying158 unitElem w.heap.size n _ rfl (((HOW.out.alloc _).alloc _).alloc _) (by unfold maxLen; omega) _ (.agg #[]) _ rfl rfl (keyO _ _ HS.out) _ [] unitElem_mk ?_; intro w3 hown3 hg3))
          go_roundw
          case rel => exact ⟨k + 1, fput f nm lo, hlt, by go_num, ⟨⟨n + 1, _, by omega, hown3, HIN.out.put _ _ HS.out _⟩, (((HBE.out.alloc HBE.out.size _).alloc (by have := HBE.out.size; simp; omega) _).alloc (by have := HBE.out.size; simp; omega) _).grown hg3 (by have := HBE.out.size; simp; omega) (fun j e => by cases e; exact Nat.le_refl _)⟩, ⟨by rw [HF.out, HFF.out]; rfl⟩⟩
          case measure => simp [intOf]; omega
      · cases em
        · have hM : M = false := by rw [← HM.out, HF.out, HFF.out]; rfl
          have HMM : Hid _ := ⟨hM⟩
          clear hM
          go_wp2_with (at_lookup; refine wpList_lookup_own_unit _ rfl _ _ 158 rfl 160 161 lawO Try.underlying158 (zeroU _) w.heap.size n D rfl ((HOW.out.alloc _).alloc _) _ _ rfl (keyO _ _ HS.out) ?_; rw [HQ.out])
          go_ret
          exact ⟨ret_bool HMM.out.symm, ((HBE.out.alloc HBE.out.size _).alloc (by have := HBE.out.size; simp; omega) _).alloc (by have := HBE.out.size; simp; omega) _⟩
        · go_wp2_with (first
            | (at_lookup; refine wpList_lookup_own_unit _ rfl _ _ 158 rfl 160 161 lawO Try.underlying158 (zeroU _) w.heap.size n D rfl ((HOW.out.alloc _).alloc _) _ _ rfl (keyO _ _ HS.out) ?_; rw [HQ.out])
            | (at_mapUpdate; refine wpList_mapUpdate_own _ rfl _ _ _ 158 rfl 160 161 lawO Try.underlying158 unitElem w.heap.size n _ rfl (((HOW.out.alloc _).alloc _).alloc _) (by unfold maxLen; omega) _ (.agg #[]) _ rfl rfl (keyO _ _ HS.out) _ [] unitElem_mk ?_; intro w3 hown3 hg3))
          go_roundw
          case rel => exact ⟨k + 1, fput f nm lo, hlt, by go_num, ⟨⟨n + 1, _, by omega, hown3, HIN.out.put _ _ HS.out _⟩, (((HBE.out.alloc HBE.out.size _).alloc (by have := HBE.out.size; simp; omega) _).alloc (by have := HBE.out.size; simp; omega) _).grown hg3 (by have := HBE.out.size; simp; omega) (fun j e => by cases e; exact Nat.le_refl _)⟩, ⟨by rw [HF.out, HFF.out]; rfl⟩⟩
          case measure => simp [intOf]; omega
    · obtain rfl : k = l.length := by omega
      have hM : M = true := by rw [← HM.out, HF.out, List.drop_of_length_le (Nat.le_refl _)]; rfl
      have HMM : Hid _ := ⟨hM⟩
      have HBE : Hid _ := ⟨hbel⟩
      clear hM hown hinv hbel HW
      go_wp2
      go_ret
      exact ⟨ret_bool HMM.out.symm, HBE.out⟩
end Go.Proofs.Ytojiomkinhnodaa
