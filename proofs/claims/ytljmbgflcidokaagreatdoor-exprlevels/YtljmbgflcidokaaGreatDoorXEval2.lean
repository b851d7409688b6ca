/- Names: the first few are looked for one by one. Names: place and value, of the first few. The program's Eval. -/
import Derived.Test.YtljmbgflcidokaaGreatDoorXAtoms
import Derived.Shelf.Abstract
import Derived.Test.YtljmbgflcidokaaGreatDoorXNew
import Derived.Deep.RegionHeld3
namespace Go.Proofs.YtljmbgflcidokaaGreatDoor
open Go.ChangeShapes Go.WideShapes Go.ChangeAt Go.RowKit Go.Maps
set_option linter.unusedVariables false
set_option linter.unusedSimpArgs false

theorem place1_any (d : Dx) (s : ByteArray) (cb : Nat) (w : World) (hc : w.cell? ⟨cb, 0, none⟩ = some (.string s)) : Calls Tryz.prog 115 #[.agg #[.string d.s, .string d.v.p, .string d.v.m, .int .i64 d.v.n], .pointer (some ⟨cb, 0, none⟩)] w fun e w' => e = .returned (.bool (sB d.s s)) ∧ Below w.heap.size w w' := by
  have c := up_alloc hc (.cells #[.string d.s, .string d.v.p, .string d.v.m, .int .i64 d.v.n] 74)
  have hlt := World.block_lt_of_cell? w _ hc
  simp only at hlt
  go_enter Tryz.func115, Tryz.ntmps115
  go_wp2
  go_ret
  exact ⟨rfl, bel_alloc (Below.refl _ _) _⟩

/-- The place of the first Def of a name from k on. -/
def idxF (K : List Dx) (s : ByteArray) (k : Nat) : Int := match (K.drop k).findIdx? (fun d => sB d.s s) with | some i => ((k + i : Nat) : Int) | none => -1
theorem idx_end (K : List Dx) (s : ByteArray) {k : Nat} (h : K.length ≤ k) : idxF K s k = -1 := by
  unfold idxF
  rw [List.drop_of_length_le h]
  rfl
theorem idx_cons (K : List Dx) (s : ByteArray) {k : Nat} (h : k < K.length) : idxF K s k = if sB (K.getD k Dx.none).s s = true then (k : Int) else idxF K s (k + 1) := by
  unfold idxF
  rw [List.drop_eq_getElem_cons h, getD_at _ _ h, List.findIdx?_cons]
  cases e : sB (K[k]).s s with
  | true => simp
  | false =>
    simp only [Bool.false_eq_true, if_false]
    cases (K.drop (k + 1)).findIdx? (fun d => sB d.s s) with
    | none => rfl
    | some i => simp only [Option.map_some]; congr 1; omega

set_option maxHeartbeats 1000000 in
set_option maxRecDepth 10000 in
theorem indexFunc_any (K : List Dx) (s : ByteArray) (rb cb : Nat) (ko : Option Addr) (kcp : Nat) (w : World) (hd : Defs w rb (.slice ko K.length kcp) K) (hc : w.cell? ⟨cb, 0, none⟩ = some (.string s)) (hl : K.length ≤ 8796093022208) : Calls Tryz.prog 114 #[.slice ko K.length kcp, .func (.func 115) #[] #[.pointer (some ⟨cb, 0, none⟩)]] w fun e w' => e = .returned (.int .i64 (idxF K s 0)) ∧ Below w.heap.size w w' := by
  have HC : Hid _ := ⟨hc⟩
  have HD : Hid _ := ⟨hd⟩
  obtain ⟨M, HM⟩ : ∃ M, Hid (idxF K s 0 = M) := ⟨_, ⟨rfl⟩⟩
  rw [HM.out]
  have HP : Hid (∀ (d : Dx) (W : World), Below w.heap.size w W → Calls Tryz.prog 115 #[.agg #[.string d.s, .string d.v.p, .string d.v.m, .int .i64 d.v.n], .pointer (some ⟨cb, 0, none⟩)] W fun e w' => e = .returned (.bool (sB d.s s)) ∧ Below W.heap.size W w') := ⟨fun d W hW => place1_any d s cb W (to_bel hW hc)⟩
  clear hc hd
  go_enter Tryz.func114, Tryz.ntmps114
  go_wp2_with (fail)
  go_loopw [5, 8] (fun s5 s8 wr => ∃ k : Nat, s8 = .int .i64 (k : Int) ∧ k ≤ K.length ∧ Hid (Below w.heap.size w wr ∧ idxF K s k = M)) (fun s5 s8 wr => K.length - (intOf s8).toNat)
  case atStart => exact ⟨0, rfl, by omega, ⟨Below.refl _ _, HM.out⟩⟩
  case round =>
    obtain ⟨k, rfl, hk, HR⟩ := hrel
    by_cases hlt : k < K.length
    · have h0 : (0 : Int) ≤ (k : Int) := by omega
      have h1 : (k : Int) < (K.length : Int) := by omega
      obtain ⟨ao, cp, e0, h2⟩ := HD.out
      injection e0 with q0 q1 q2
      subst q0
      clear q1 q2
      obtain ⟨b, off, e1, e2, e3⟩ := h2.resolve_left (fun e => by rw [e] at hlt; simp at hlt)
      subst e1
      have hda := (e3 k hlt)
      have d0 := to_bel HR.out.1 hda.s
      have d1 := to_bel HR.out.1 hda.p
      have d2 := to_bel HR.out.1 hda.m
      have d3 := to_bel HR.out.1 hda.n
      have hst := idx_cons K s hlt
      rw [HR.out.2] at hst
      clear e3 hda
      generalize K.getD k Dx.none = d at *
      have hw : IntKind.i64.wrap ((k : Int) + 1) = ((k + 1 : Nat) : Int) := by rw [IntKind.wrap_i64]; omega
      have HQ : Hid _ := ⟨HP.out d⟩
      cases hb : sB d.s s with
      | true =>
        rw [hb] at HQ hst
        have hm : M = (k : Int) := hst
        clear hst
        subst hm
        go_wp2_with (go_at_call 115; (with_reducible refine (HQ.out _ HR.out.1).mono ?_); rintro e w2 ⟨he, hb2⟩; subst he)
        go_ret
        exact ⟨rfl, bel_trans HR.out.1 hb2⟩
      | false =>
        rw [hb] at HQ hst
        have hm : idxF K s (k + 1) = M := hst.symm
        have HM2 : Hid _ := ⟨hm⟩
        clear hst hm
        go_wp2_with (go_at_call 115; (with_reducible refine (HQ.out _ HR.out.1).mono ?_); rintro e w2 ⟨he, hb2⟩; subst he)
        go_roundw
        case rel => exact ⟨k + 1, by go_num, by omega, ⟨bel_trans HR.out.1 hb2, HM2.out⟩⟩
        case measure => simp [intOf]; omega
    · obtain rfl : k = K.length := by omega
      have hm : M = -1 := by rw [← HR.out.2, idx_end K s (Nat.le_refl _)]
      subst hm
      have h1 : ¬ (K.length : Int) < (K.length : Int) := by omega
      go_wp2
      go_ret
      exact ⟨rfl, HR.out.1⟩

section
variable {g : Gx} {w w' : World} {a dep ask : Nat} {pv : Value}
theorem RX.setAsk (h : RX g w a dep ask pv) (k' : Nat) (v : Int) (hv : v = (k' : Int)) (hk : k' ≤ a) : RX g (w.setCell ⟨g.rb, 4, none⟩ (.int .i64 v)) a dep k' pv := by
  subst hv
  have ht : TX g.rb w (w.setCell ⟨g.rb, 4, none⟩ (.int .i64 k')) := Turn.setCell (S := fun k => k = g.rb) (Turn.refl _ w) ⟨g.rb, 4, none⟩ rfl _
  refine h.move ht ?_ ?_ ?_ ?_ ?_ ?_ ?_ ?_ (fun j => (World.frozen?_setCell _ _ _ _).trans (h.fz j)) hk (h.pl.turn ht)
  · simp [go_sem, h.c1]
  · simp [go_sem, h.c2]
  · simp [go_sem, h.c4]
  · simp [go_sem, h.c5]
  · simp [go_sem]
  · simp [go_sem]
  · simp [go_sem]
  · simp [go_sem]

theorem nameV_idx (K : List Dx) (s : ByteArray) : (idxF K s 0 < 0 ∧ nameV K s = ⟨s, es, 0⟩) ∨ ∃ i, i < K.length ∧ idxF K s 0 = (i : Int) ∧ nameV K s = redV (K.getD i Dx.none).v := by
  unfold idxF nameV
  rw [List.drop_zero]
  cases hf : K.findIdx? (fun d => sB d.s s) with
  | none =>
    left
    have : K.find? (fun d => sB d.s s) = none := by
      rw [List.findIdx?_eq_none_iff] at hf
      rw [List.find?_eq_none]
      intro x hx
      have := hf x hx
      simp [this]
    rw [this]
    exact ⟨by decide, rfl⟩
  | some i =>
    right
    have hb := List.findIdx?_eq_some_iff_getElem.1 hf
    obtain ⟨hi, h1, h2⟩ := hb
    refine ⟨i, hi, by simp, ?_⟩
    have : K.find? (fun d => sB d.s s) = some K[i] := by
      rw [List.find?_eq_some_iff_getElem]
      exact ⟨h1, i, hi, rfl, fun j hj => by simpa using h2 j hj⟩
    rw [this, getD_at _ _ hi]

set_option maxHeartbeats 1000000 in
theorem place_few (h : RX g w a dep ask pv) (hk : ask < a) (h8 : ask < 8) (s : ByteArray) (hKl : g.K.length ≤ 8796093022208) : Calls Tryz.prog 100 #[.pointer (some ⟨g.rb, 3, none⟩), .string s] w fun e w' => e = .returned (.int .i64 (idxF g.K s 0)) ∧ TX g.rb w w' ∧ RX g w' a dep (ask + 1) pv := by
  have hmf : ∀ (fn : Fn) (first cap : Array Value) (w : World), (Instr.makeFunc fn first cap).run Tryz.prog w = .ok (.func fn first cap) w := by intros; rfl
  have hrb := h.lt
  have hrb' : ¬ w.heap.size = g.rb := by omega
  have c4 := h.c4
  have z4 := h.fz 4
  obtain ⟨ko, kcp, hkv, hdf⟩ := h.df
  have c3 : w.cell? ⟨g.rb, 3, none⟩ = some (.slice ko g.K.length kcp) := by rw [h.c3, hkv]
  have hw : IntKind.i64.wrap ((ask : Int) + 1) = (ask : Int) + 1 := by rw [IntKind.wrap_i64]; omega
  have hle : (ask : Int) + 1 ≤ 8 := by omega
  have X1 := (h.setAsk (ask + 1) ((ask : Int) + 1) (by omega) (by omega)).alloc (.cells #[.string s] 9)
  have T1 : TX g.rb w ((w.setCell ⟨g.rb, 4, none⟩ (.int .i64 ((ask : Int) + 1))).alloc (.cells #[.string s] 9)) := Turn.alloc (TX.set (Turn.refl _ w) 4 _) _
  have hd1 := X1.df
  rw [hkv] at hd1
  have hc1 : ((w.setCell ⟨g.rb, 4, none⟩ (.int .i64 ((ask : Int) + 1))).alloc (.cells #[.string s] 9)).cell? ⟨w.heap.size, 0, none⟩ = some (.string s) := by
    have e : (w.setCell ⟨g.rb, 4, none⟩ (.int .i64 ((ask : Int) + 1))).heap.size = w.heap.size := by simp [World.setCell]
    simp only [World.cell?]
    rw [← e, heap_alloc_new]
    rfl
  have HI : Hid _ := ⟨indexFunc_any g.K s g.rb w.heap.size ko kcp _ hd1 hc1 hKl⟩
  have HX : Hid _ := ⟨X1⟩
  have HT : Hid _ := ⟨T1⟩
  clear X1 T1 hd1 hdf h hc1
  generalize g.K.length = kl at *
  generalize idxF g.K s 0 = M at *
  go_enter Tryz.func100, Tryz.ntmps100
  go_wp2_with (go_at_call 114; (with_reducible refine HI.out.mono ?_); rintro e w2 ⟨he, hb2⟩; subst he)
  go_ret
  exact ⟨rfl, TX.bel HT.out hb2, HX.out.bel hb2⟩

/-- What place is asked for. -/
def PlaceC (g : Gx) (s : ByteArray) (w : World) (a dep ask : Nat) : Prop := Calls Tryz.prog 100 #[.pointer (some ⟨g.rb, 3, none⟩), .string s] w fun e w' => e = .returned (.int .i64 (idxF g.K s 0)) ∧ TX g.rb w w' ∧ ∃ pv', RX g w' a dep (ask + 1) pv'
theorem VB.at' {u : World} {p m : ByteArray} {n : Int} (g : Nat) (hg : g = u.heap.size) (o : Obj) (ho : o = .cells #[.string p, .string m, .int .i64 n] 27) : VB (u.alloc o) g p m n := by subst ho; exact VB.at u p m n g hg

set_option maxHeartbeats 1000000 in
theorem value_of (h : RX g w a dep ask pv) (s : ByteArray) (hP : PlaceC g s (w.alloc zV) a dep ask) (hKl : g.K.length ≤ 8796093022208) : Calls Tryz.prog 86 #[.pointer (some ⟨g.rb, 3, none⟩), .string s] w fun e w' => e = .returned (.agg #[.string (nameV g.K s).p, .string (nameV g.K s).m, .int .i64 (nameV g.K s).n]) ∧ TX g.rb w w' ∧ ∃ pv', RX g w' a dep (ask + 1) pv' := by
  have hrb := h.lt
  have hrb' : ¬ w.heap.size = g.rb := by omega
  have HP : Hid _ := ⟨hP⟩
  have HW : Hid _ := ⟨h⟩
  have HV : Hid (VB (w.alloc zV) w.heap.size ⟨#[]⟩ ⟨#[]⟩ 0) := ⟨VB.new w _ _ _⟩
  have HT : Hid (TX g.rb w (w.alloc zV)) := ⟨Turn.alloc (Turn.refl _ w) zV⟩
  clear hP h
  rcases nameV_idx g.K s with ⟨hlt, hn⟩ | ⟨i, hi, hx, hn⟩
  · rw [hn]
    unfold PlaceC at HP
    generalize idxF g.K s 0 = M at *
    go_enter Tryz.func86, Tryz.ntmps86
    go_wp2_with (go_at_call 100; (with_reducible refine HP.out.mono ?_); rintro e w2 ⟨he, T2, pv2, X2⟩; subst he; have HX2 : Hid _ := ⟨X2⟩; have W2 := HV.out.tx T2 hrb'; obtain ⟨f0, f1, f2, f3⟩ := id W2; have TT := HT.out.trans T2; clear X2 T2)
    refine bodyPost_ret (resV_value _ _ w.heap.size _ _ _ rfl (W2.set _ _ _)) rfl ?_
    exact ⟨rfl, TX.set3 TT (Nat.le_refl _) _ _ _, pv2, HX2.out.set3 HW.out w.heap.size (Nat.le_refl _) W2.c0 _ _ _⟩
  · unfold PlaceC at HP
    rw [hx] at HP
    rw [hn]
    have HD : Hid (∀ (W : World) (pv' : Value), RX g W a dep (ask + 1) pv' → ∃ b off kcp, W.cell? ⟨g.rb, 3, none⟩ = some (.slice (some ⟨b, off, none⟩) g.K.length kcp) ∧ DefAt W b (off + i * 4) (g.K.getD i Dx.none)) := ⟨fun W pv' hW => by
      obtain ⟨ko, kcp, hkv, hdf⟩ := hW.df
      obtain ⟨b, off, e1, e2, e3⟩ := hdf.resolve_left (fun e => by rw [e] at hi; simp at hi)
      exact ⟨b, off, kcp, by rw [hW.c3, hkv, e1], e3 i hi⟩⟩
    have HR : Hid (∀ W, _) := ⟨fun W => reduced_any (g.K.getD i Dx.none).v.p (g.K.getD i Dx.none).v.m (g.K.getD i Dx.none).v.n W⟩
    have h0 : (0 : Int) ≤ (i : Int) := by omega
    have h0' : ¬ (i : Int) < 0 := by omega
    have h1 : (i : Int) < (g.K.length : Int) := by omega
    generalize g.K.getD i Dx.none = d at *
    generalize hrv : redV d.v = rv at *
    obtain ⟨r1, r2, r3⟩ := rv
    rw [Vx.val_mk] at HR
    generalize g.K.length = kl at *
    clear hrv hn hx hi
    go_enter Tryz.func86, Tryz.ntmps86
    go_wp2_with (first
      | (go_at_call 100; (with_reducible refine HP.out.mono ?_); rintro e w2 ⟨he, T2, pv2, X2⟩; subst he; obtain ⟨b, off, kcp, c3, d0, d1, d2, d3⟩ := HD.out _ _ X2; have HX2 : Hid _ := ⟨X2⟩; have W2 := HV.out.tx T2 hrb'; obtain ⟨f0, f1, f2, f3⟩ := id W2; have TT := HT.out.trans T2; clear X2 T2)
      | (go_at_call 27; (with_reducible refine (HR.out _).mono ?_); rintro e w3 ⟨he, hb3⟩; subst he; have W3 := W2.bel hb3 W2.lt; obtain ⟨f0, f1, f2, f3⟩ := id W3))
    refine bodyPost_ret (resV_value _ _ w.heap.size _ _ _ rfl (W3.set _ _ _)) rfl ?_
    exact ⟨rfl, TX.set3 (TX.bel TT hb3) (Nat.le_refl _) _ _ _, pv2, (HX2.out.bel hb3).set3 HW.out w.heap.size (Nat.le_refl _) W3.c0 _ _ _⟩

/-- Of few names. -/
theorem name_few (g : Gx) (hL : g.L.length ≤ 8) (hKl : g.K.length ≤ 8796093022208) : NameC g := by
  intro w a dep ask pv i h hk hal hi h1
  refine value_of h _ ?_ hKl
  refine (place_few (h.alloc zV) hk (by omega) _ hKl).mono ?_
  rintro e w' ⟨he, ht, hx⟩
  exact ⟨he, ht, pv, hx⟩
/-- Of none. -/
theorem name_none (g : Gx) (hL : ∀ i, i < g.L.length → ¬ (g.L.getD i TL.none).1.k = 1) : NameC g := by
  intro w a dep ask pv i h hk hal hi h1
  exact absurd (by simpa using h1) (hL i hi)
end

/-- What Eval is given. -/
structure EvIn (w : World) (ao : Option Addr) (L : List TL) (ko : Option Addr) (K : List Dx) : Prop where
  tk : L = [] ∨ ∃ b off, ao = some ⟨b, off, none⟩ ∧ ∀ i, i < L.length → TokAt w b (off + i * 4) (L.getD i TL.none)
  df : K = [] ∨ ∃ b off, ko = some ⟨b, off, none⟩ ∧ ∀ i, i < K.length → DefAt w b (off + i * 4) (K.getD i Dx.none)
  hl : L.length ≤ 8796093022208
  ot : ∀ p ∈ L, p.1.t.length ≤ 140737488355328
  ok : ∀ d ∈ K, d.v.Ok
/-- What Eval answers. -/
def evE (m : Res) : Value := match m with
  | .error er => .tuple #[.agg #[.string ⟨#[]⟩, .string ⟨#[]⟩, .int .i64 0], .int .i64 0, .int .i64 er]
  | .ok (v, b) => .tuple #[.agg #[.string v.p, .string v.m, .int .i64 v.n], .int .i64 (b : Int), .int .i64 0]
def evI (K : List Dx) (L : List TL) (a : Int) : Res := if a < 0 ∨ (L.length : Int) < a then .error 11 else evalM K L a.toNat

theorem NR.rx {w W : World} {rb mb : Nat} {ao ko : Option Addr} {cp kcp : Nat} {L : List TL} {K : List Dx} {a : Nat} (h : NR w rb mb (.slice ao L.length cp) (.slice ko K.length kcp) a 3 W) (hi : EvIn w ao L ko K) : RX ⟨rb, ao, cp, L, .slice ko K.length kcp, K, mb⟩ W a 0 0 (.map none) := by
  refine ⟨h.c0, h.c1, h.c2, h.c3, h.c4, h.c5, h.c6, h.c7, h.fz, ?_, fun i hi => h.st i hi, h.op, h.mlt, ⟨ko, kcp, rfl, ?_⟩, .inl rfl, by omega, hi.hl, hi.ot, hi.ok⟩
  · rcases hi.tk with h1 | ⟨b, off, e1, e2⟩
    · exact .inl h1
    · by_cases hz : L.length = 0
      · exact .inl (List.eq_nil_of_length_eq_zero hz)
      · have hb : b < w.heap.size := World.block_lt_of_cell? w _ (e2 0 (by omega)).k
        have := h.wlt
        exact .inr ⟨b, off, e1, by dsimp only; omega, fun i hi => (e2 i hi).below h.bel (Nat.le_refl _)⟩
  · rcases hi.df with h1 | ⟨b, off, e1, e2⟩
    · exact .inl h1
    · by_cases hz : K.length = 0
      · exact .inl (List.eq_nil_of_length_eq_zero hz)
      · have hb : b < w.heap.size := World.block_lt_of_cell? w _ (e2 0 (by omega)).s
        have := h.wlt
        exact .inr ⟨b, off, e1, by dsimp only; omega, fun i hi => (e2 i hi).turn (Turn.of_below (h.bel.mono (Nat.le_refl _)) (fun _ => False)) (fun e => e)⟩

theorem EvIn.bel {w w' : World} {ao ko : Option Addr} {L : List TL} {K : List Dx} (h : EvIn w ao L ko K) (hb : Below w.heap.size w w') : EvIn w' ao L ko K := by
  refine ⟨h.tk.imp id ?_, h.df.imp id ?_, h.hl, h.ot, h.ok⟩
  · rintro ⟨b, off, e1, e2⟩
    exact ⟨b, off, e1, fun i hi => (e2 i hi).below hb (Nat.le_refl _)⟩
  · rintro ⟨b, off, e1, e2⟩
    exact ⟨b, off, e1, fun i hi => (e2 i hi).turn (Turn.of_below hb (fun _ => False)) (fun e => e)⟩
theorem keepE {u : World} {B rb : Nat} {p m : ByteArray} {n : Int} {x : Value} (hB : ¬ rb = B) (h : u.cell? ⟨B, 0, none⟩ = some (.string p) ∧ u.cell? ⟨B, 1, none⟩ = some (.string m) ∧ u.cell? ⟨B, 2, none⟩ = some (.int .i64 n) ∧ u.cell? ⟨rb, 1, none⟩ = some x) :
    (((u.setCell ⟨B, 0, none⟩ (.string p)).setCell ⟨B, 1, none⟩ (.string m)).setCell ⟨B, 2, none⟩ (.int .i64 n)).drew.cell? ⟨B, 0, none⟩ = some (.string p) ∧ (((u.setCell ⟨B, 0, none⟩ (.string p)).setCell ⟨B, 1, none⟩ (.string m)).setCell ⟨B, 2, none⟩ (.int .i64 n)).drew.cell? ⟨B, 1, none⟩ = some (.string m) ∧ (((u.setCell ⟨B, 0, none⟩ (.string p)).setCell ⟨B, 1, none⟩ (.string m)).setCell ⟨B, 2, none⟩ (.int .i64 n)).drew.cell? ⟨B, 2, none⟩ = some (.int .i64 n) ∧ (((u.setCell ⟨B, 0, none⟩ (.string p)).setCell ⟨B, 1, none⟩ (.string m)).setCell ⟨B, 2, none⟩ (.int .i64 n)).drew.cell? ⟨rb, 1, none⟩ = some x :=
  ⟨up_drew (by simp [go_sem, h.1]), up_drew (by simp [go_sem, h.2.1]), up_drew (by simp [go_sem, h.2.2.1]), up_drew (set3_cell hB h.2.2.2)⟩

set_option maxHeartbeats 2000000 in
set_option maxRecDepth 10000 in
theorem xEval_any (w : World) (ao ko : Option Addr) (cp kcp : Nat) (L : List TL) (K : List Dx) (a : Int) (hi : EvIn w ao L ko K) (hN : ∀ rb mb, NameC ⟨rb, ao, cp, L, .slice ko K.length kcp, K, mb⟩) :
    Calls Tryz.prog 9 #[.slice ao L.length cp, .int .i64 a, .slice ko K.length kcp] w fun e w' => e = .returned (evE (evI K L a)) ∧ Below w.heap.size w w' := by
  unfold evI
  have V6 : VB (w.alloc zV) w.heap.size ⟨#[]⟩ ⟨#[]⟩ 0 := VB.new w _ _ _
  by_cases h1 : a < 0
  · rw [if_pos (.inl h1)]
    go_enter Tryz.func9, Tryz.ntmps9
    go_wp2
    refine bodyPost_ret (resV_Eval _ _ w.heap.size _ _ _ rfl (VB.at _ _ _ _ _ rfl)) rfl ⟨rfl, bel_alloc (Below.refl _ _) _⟩
  · by_cases h2 : (L.length : Int) < a
    · rw [if_pos (.inr h2)]
      go_enter Tryz.func9, Tryz.ntmps9
      go_wp2
      refine bodyPost_ret (resV_Eval _ _ w.heap.size _ _ _ rfl (VB.at _ _ _ _ _ rfl)) rfl ⟨rfl, bel_alloc (Below.refl _ _) _⟩
    · rw [if_neg (by omega)]
      obtain ⟨n, rfl⟩ : ∃ n : Nat, a = (n : Int) := ⟨a.toNat, by omega⟩
      rw [Int.toNat_natCast]
      have HNR : Hid _ := ⟨newReader_x ao L.length cp ko K.length kcp n (w.alloc zV)⟩
      have hz : (w.alloc zV).heap.size + 8 = w.heap.size + 9 := by simp
      rw [hz] at HNR
      have HI : Hid _ := ⟨hi.bel (bel_alloc (Below.refl _ _) zV)⟩
      have HN : Hid _ := ⟨hN (w.heap.size + 9) (w.alloc zV).heap.size⟩
      have hnl : n ≤ L.length := by omega
      have HE : Hid (∀ W ask pv, RX ⟨w.heap.size + 9, ao, cp, L, .slice ko K.length kcp, K, (w.alloc zV).heap.size⟩ W n 0 ask pv → Calls Tryz.prog 63 #[.pointer (some ⟨w.heap.size + 9 + 3 + 3 * 2, 0, none⟩), .pointer (some ⟨w.heap.size + 9 + 1 + 3 * 2, 0, none⟩), .pointer (some ⟨w.heap.size + 9 + 2 + 3 * 2, 0, none⟩)] W fun e w' => SE (evalM K L n) ⟨w.heap.size + 9, ao, cp, L, .slice ko K.length kcp, K, (w.alloc zV).heap.size⟩ 0 W e w') := ⟨fun W ask pv hW => xeval _ HN.out W n 0 ask pv hW rfl hnl⟩
      have h7 : Hid (∀ W ask pv, RX ⟨w.heap.size + 9, ao, cp, L, .slice ko K.length kcp, K, (w.alloc zV).heap.size⟩ W n 0 ask pv → W.cell? ⟨w.heap.size + 9, 7, none⟩ = some (.func (.func 63) #[] #[.pointer (some ⟨w.heap.size + 9 + 3 + 3 * 2, 0, none⟩), .pointer (some ⟨w.heap.size + 9 + 1 + 3 * 2, 0, none⟩), .pointer (some ⟨w.heap.size + 9 + 2 + 3 * 2, 0, none⟩)])) := ⟨fun W ask pv hW => hW.c7⟩
      generalize w.heap.size + 9 + 3 + 3 * 2 = q at *
      generalize w.heap.size + 9 + 1 + 3 * 2 = r at *
      generalize w.heap.size + 9 + 2 + 3 * 2 = l at *
      generalize hrbe : w.heap.size + 9 = rb at *
      have hrb : ¬ rb = w.heap.size := by omega
      have HV6 : Hid _ := ⟨V6⟩
      clear hi hN HN hz V6
      cases hm : evalM K L n with
      | error er =>
        rw [hm] at HE
        go_enter Tryz.func9, Tryz.ntmps9
        go_wp2_with (first
          | (go_at_call 25; (with_reducible refine HNR.out.mono ?_); rintro e w1 ⟨he, hn⟩; subst he; have X1 := hn.rx HI.out; have HX1 : Hid _ := ⟨X1⟩; have c7 := h7.out _ _ _ X1; have V1 := HV6.out.bel hn.bel HV6.out.lt; have B1 := bel_trans (bel_alloc (Below.refl w.heap.size w) zV) hn.bel; clear hn X1)
          | (go_at_call 63; (with_reducible refine (HE.out _ _ _ HX1.out).mono ?_); rintro e w2 ⟨⟨x, he⟩, hne, T2, hEB⟩; subst he; have hne' : (er != 0) = true := bne_iff_ne.2 hne; have T2' : TX rb w1 w2 := T2; have V2 := V1.tx T2' (fun e => hrb e.symm); obtain ⟨f0, f1, f2, f3⟩ := id V2; have B2 : Below w.heap.size w w2 := B1.trans (T2'.below B1.size (fun k e => (by omega)))))
        refine bodyPost_ret (resV_Eval _ _ w.heap.size _ _ _ rfl ((V2.set _ _ _).set _ _ _)) rfl ⟨rfl, ?_⟩
        exact (((((B2.setCell (Nat.le_refl _) _).setCell (Nat.le_refl _) _).setCell (Nat.le_refl _) _).setCell (Nat.le_refl _) _).setCell (Nat.le_refl _) _).setCell (Nat.le_refl _) _
      | ok vb =>
        obtain ⟨v, b⟩ := vb
        rw [hm] at HE
        go_enter Tryz.func9, Tryz.ntmps9
        go_upto_region 7 with (first
          | (go_at_call 25; (with_reducible refine HNR.out.mono ?_); rintro e w1 ⟨he, hn⟩; subst he; have X1 := hn.rx HI.out; have HX1 : Hid _ := ⟨X1⟩; have c7 := h7.out _ _ _ X1; have V1 := HV6.out.bel hn.bel HV6.out.lt; have B1 := bel_trans (bel_alloc (Below.refl w.heap.size w) zV) hn.bel; clear hn X1)
          | (go_at_call 63; (with_reducible refine (HE.out _ _ _ HX1.out).mono ?_); rintro e w2 ⟨he, hvo, T2, ask2, pv2, X2⟩; subst he; have T2' : TX rb w1 w2 := T2; have V2 := V1.tx T2' (fun e => hrb e.symm); obtain ⟨f0, f1, f2, f3⟩ := id V2; have B2 : Below w.heap.size w w2 := B1.trans (T2'.below B1.size (fun k e => (by omega))); have c1 : w2.cell? ⟨rb, 1, none⟩ = some (.int .i64 (b : Int)) := X2.c1; clear X2 T2))
        have V3 := V2.set v.p v.m v.n
        have B3 : Below w.heap.size w (((w2.setCell ⟨w.heap.size, 0, none⟩ (.string v.p)).setCell ⟨w.heap.size, 1, none⟩ (.string v.m)).setCell ⟨w.heap.size, 2, none⟩ (.int .i64 v.n)) := ((B2.setCell (Nat.le_refl _) _).setCell (Nat.le_refl _) _).setCell (Nat.le_refl _) _
        have c1' := set3_cell (B := w.heap.size) (x := .string v.p) (y := .string v.m) (z := .int .i64 v.n) (ad := ⟨rb, 1, none⟩) hrb c1
        generalize ((w2.setCell ⟨w.heap.size, 0, none⟩ (.string v.p)).setCell ⟨w.heap.size, 1, none⟩ (.string v.m)).setCell ⟨w.heap.size, 2, none⟩ (.int .i64 v.n) = w3 at *
        obtain ⟨k0, k1, k2, k3⟩ := id V3
        have d0 : w3.drew.cell? ⟨w.heap.size, 0, none⟩ = _ := k0
        have d1 : w3.drew.cell? ⟨w.heap.size, 1, none⟩ = _ := k1
        have d2 : w3.drew.cell? ⟨w.heap.size, 2, none⟩ = _ := k2
        have d4 : w3.drew.cell? ⟨rb, 1, none⟩ = _ := c1'
        go_region_held3 (fun u => u.cell? ⟨w.heap.size, 0, none⟩ = some (.string v.p) ∧ u.cell? ⟨w.heap.size, 1, none⟩ = some (.string v.m) ∧ u.cell? ⟨w.heap.size, 2, none⟩ = some (.int .i64 v.n) ∧ u.cell? ⟨rb, 1, none⟩ = some (.int .i64 (b : Int)))
          (first | (with_reducible assumption) | (with_reducible exact ⟨d0, d1, d2, d4⟩) | (with_reducible exact keepE hrb ⟨k0, k1, k2, c1'⟩))
          (fail)
        all_goals
          go_wp2
          refine bodyPost_ret (resV_Eval _ _ w.heap.size _ _ _ rfl ((V3.set _ _ _).drewN 1)) rfl ⟨rfl, ?_⟩
          exact (((B3.setCell (Nat.le_refl _) _).setCell (Nat.le_refl _) _).setCell (Nat.le_refl _) _).drew
end Go.Proofs.YtljmbgflcidokaaGreatDoor
