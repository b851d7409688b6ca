/- Copies: append to an empty row. -/
import Derived.Test.YtojiomkinhnodaaYPages
namespace Go.Proofs.Ytojiomkinhnodaa
open Go.ChangeShapes Go.WideShapes Go.ChangeAt Go.RowKit Go.Maps
set_option linter.unusedVariables false
set_option linter.unusedSimpArgs false

/-- A row that may be read: n elements of k cells, what they hold. -/
def Rd (w : World) (k : Nat) (ao : Option Addr) (n : Nat) (ys : List Value) : Prop :=
  ys.length = n * k ∧ (∀ u ∈ ys, u.oneCell' = true) ∧ (ao = none ∧ n = 0 ∨ ∃ ad : Addr, ao = some ad ∧ ∀ j u, ys[j]? = some u → w.cell? (ad.add j) = some u)
theorem Rd.below {w w' : World} {k : Nat} {ao : Option Addr} {n : Nat} {ys : List Value} (h : Rd w k ao n ys) {B : Nat} (hb : Below B w w') (hB : w.heap.size ≤ B) : Rd w' k ao n ys := by
  refine ⟨h.1, h.2.1, ?_⟩
  rcases h.2.2 with h | ⟨ad, e, h⟩
  · exact .inl h
  · refine .inr ⟨ad, e, fun j u hj => ?_⟩
    have h1 := h j u hj
    have k2 : (ad.add j).block < B := Nat.lt_of_lt_of_le (World.block_lt_of_cell? w (ad.add j) h1) hB
    exact (hb.cell (p := ad.add j) k2).trans h1
theorem own_empty' {w : World} {e k g : Nat} (h : Bk w g e #[]) : w.ownsRow g e k (.slice (some ⟨g, 0, none⟩) 0 0) 0 [] := ⟨by simp, .inr ⟨g, 0, #[], rfl, Nat.le_refl _, h.hp, Nat.le_refl _, by unfold maxLen; omega, by simp, by simp⟩⟩
theorem own_n {w : World} {base e s n : Nat} {v : Value} {xs : List Value} (h : w.ownsRow base e s v n xs) {a : Option Addr} {m c : Nat} (hv : v = .slice a m c) : m = n := by
  rcases h.2 with ⟨h1, h2⟩ | ⟨g, cap, cur, h1, _⟩
  · rw [hv] at h1; injection h1 with _ e _; omega
  · rw [hv] at h1; injection h1
theorem append_cp {w : World} {ops : Array Oper} {rest : List Oper} {o : Oper} {a : Act} {Q : Exit → Act → World → Prop} (hgd : o.guard = none) (s x : Operand) (t e : TypeId) (z : Value) (k bytes : Nat)
    (ho : o.op = .call { callee := .builtin .append, args := #[s, x], argTypes := #[t, t] }) (ht : Try.prog.underlying t = some (.slice e)) (hinf : (Try.prog.info? e).map (fun i => (i.zero, i.size, i.bytes)) = some (some z, k, bytes)) (hz1 : z.cells.size = k) (hk0 : 0 < k)
    (hs : a.eval s = .slice (some ⟨w.heap.size, 0, none⟩) 0 0) {ao : Option Addr} {n c : Nat} {ys : List Value} (hx : a.eval x = .slice ao n c) (hr : Rd w k ao n ys) (hc : ao = none → c = 0)
    (hn : n ≤ maxLen) (hb : n * bytes ≤ 140737488355328)
    (h : ∀ va vc w', w'.ownsRow w.heap.size e k (.slice va n vc) n ys → Below w.heap.size w w' → wpList Try.prog ops Q rest (a.put o.dst (.slice va n vc)) w') :
    wpList Try.prog ops Q (o :: rest) a (w.alloc (.cells #[] e)) := by
  obtain ⟨i0, hi, hz0, hz1', hz2⟩ := info_parts hinf
  have hown : (w.alloc (.cells #[] e)).ownsRow w.heap.size e k (.slice (some ⟨w.heap.size, 0, none⟩) 0 0) 0 [] := own_empty' (Bk.new w #[] e)
  have hR := hr.below ((Below.refl _ w).alloc (Nat.le_refl _) (.cells #[] e)) (Nat.le_refl _)
  rcases hR.2.2 with ⟨rfl, rfl⟩ | ⟨ad, rfl, hc2⟩
  · have hy : ys = [] := List.eq_nil_of_length_eq_zero (by rw [hr.1]; omega)
    subst hy
    have := hc rfl
    subst this
    exact wpList_append_own_none hgd s x t ho w.heap.size e i0 k ht hi _ _ _ hs hown hx (h _ _ _ hown ((Below.refl _ _).alloc (Nat.le_refl _) _))
  · refine wpList_append_own_at _ hgd s x t ho w.heap.size e i0 z k bytes ht hi hz0 hz1' hz2 hz1 hk0 _ 0 [] hs hown ad n c ys hx hr.1 hc2 hr.2.1 (by rw [Nat.zero_add]; exact hn) (by rw [Nat.zero_add]; exact hb) (by simp) ?_
    intro v' w' ho' hg _ _
    rw [Nat.zero_add, List.nil_append] at ho'
    obtain ⟨va, vn, vc, hv⟩ := own_sl ho'
    subst hv
    have hvn : vn = n := own_n ho' rfl
    subst hvn
    exact h va vc w' ho' (((Below.refl _ _).alloc (Nat.le_refl _) _).grown hg (by simp) (fun j hj => (own_cells2 hown j hj).1))

def encS (s : Sec) : List Value := [.string s.nm, .int .i64 s.ty, .int .i64 s.fl, .int .i64 s.al, .slice s.da s.dn s.dc, .int .i64 s.sz, .slice s.ra s.rn s.rc]
theorem encS_len (r : Sec) : (encS r).length = 7 := rfl
theorem encS_one (r : Sec) : ∀ v ∈ encS r, v.oneCell' = true := List.all_eq_true.1 rfl
theorem infoS : (Try.prog.info? 52).map (fun i => (i.zero, i.size, i.bytes)) = some (some (.agg (encS Sec.zero).toArray), 7, 96) := by kernel_rfl
theorem sizeS : (Try.prog.info? 52).map (·.size) = some 7 := by kernel_rfl
theorem sizeF : (Try.prog.info? 41).map (·.size) = some 2 := by kernel_rfl
theorem infoYm : (Try.prog.info? 80).map (fun i => (i.zero, i.size, i.bytes)) = some (some (.agg #[.string ⟨#[]⟩, .string ⟨#[]⟩, .int .i64 0, .int .i64 0, .int .i64 0, .int .i64 0]), 6, 64) := by kernel_rfl
theorem infoB : (Try.prog.info? 5).map (fun i => (i.zero, i.size, i.bytes)) = some (some (.int .u8 0), 1, 1) := by kernel_rfl
theorem infoRl : (Try.prog.info? 82).map (fun i => (i.zero, i.size, i.bytes)) = some (some (.agg #[.int .i64 0, .int .i64 0, .string ⟨#[]⟩, .int .i64 0]), 4, 40) := by kernel_rfl
abbrev encFl2 (sa : Option Addr) (sn sc : Nat) (ya : Option Addr) (yn yc : Nat) : Array Value := #[.slice sa sn sc, .slice ya yn yc]
/-- A section, but where its lists lie. -/
def Sec.key (s : Sec) : Sec := ⟨s.nm, s.ty, s.fl, s.al, none, s.dn, 0, s.sz, none, s.rn, 0⟩
structure LikeF (f g : Fl) : Prop where
  se : g.secs.map Sec.key = f.secs.map Sec.key
  sy : g.syms = f.syms
structure RdS (w : World) (s : Sec) : Prop where
  da : ∃ ys, Rd w 1 s.da s.dn ys
  ra : ∃ ys, Rd w 4 s.ra s.rn ys
  dz : s.da = none → s.dc = 0
  rz : s.ra = none → s.rc = 0
  dn : s.dn ≤ 1073741824
  rn : s.rn ≤ 1073741824
theorem RdS.below {w w' : World} {s : Sec} (h : RdS w s) {B : Nat} (hb : Below B w w') (hB : w.heap.size ≤ B) : RdS w' s :=
  ⟨h.da.imp fun _ h => h.below hb hB, h.ra.imp fun _ h => h.below hb hB, h.dz, h.rz, h.dn, h.rn⟩
structure RdF (w : World) (f : Fl) : Prop where
  se : ∀ s ∈ f.secs, RdS w s
  sy : Rd w 6 f.ya f.syms.length (f.syms.flatMap Sym.cells)
  yz : f.ya = none → f.yc = 0
theorem RdF.below {w w' : World} {f : Fl} (h : RdF w f) {B : Nat} (hb : Below B w w') (hB : w.heap.size ≤ B) : RdF w' f := ⟨fun s hs => (h.se s hs).below hb hB, h.sy.below hb hB, h.yz⟩

theorem own_secs {w : World} {base : Nat} {ao : Option Addr} {cap : Nat} {l : List Sec} (h : OwnR 52 7 encS w base (.slice ao l.length cap) l) : Secs w ao l := by
  obtain ⟨ao', cap', hv, _, _, _, hc⟩ := h.any encS_len
  injection hv with h1 h2 h3
  subst h1
  rcases hc with hc | ⟨g, hg, _, _, hc⟩
  · exact .inl hc
  · refine .inr ⟨g, 0, hg, fun i hi => ?_⟩
    have h := hc i hi
    have e : l.getD i Sec.zero = l[i] := by simp [hi]
    rw [e, Nat.zero_add]
    exact ⟨h 0 (by decide), h 1 (by decide), h 2 (by decide), h 3 (by decide), h 4 (by decide), h 5 (by decide), h 6 (by decide)⟩
theorem symc_len (r : Sym) : r.cells.length = 6 := rfl
theorem own_syms {w : World} {base : Nat} {ao : Option Addr} {cap : Nat} {l : List Sym} (h : w.ownsRow base 80 6 (.slice ao l.length cap) l.length (l.flatMap Sym.cells)) : Syms w ao l := by
  obtain ⟨ao', cap', hv, _, _, _, hc⟩ := (show OwnR 80 6 Sym.cells w base (.slice ao l.length cap) l from h).any symc_len
  injection hv with h1 h2 h3
  subst h1
  rcases hc with hc | ⟨g, hg, _, _, hc⟩
  · exact .inl hc
  · refine .inr ⟨g, 0, hg, fun i hi => ?_⟩
    have h := hc i hi
    have e : l.getD i Sym.none = l[i] := by simp [hi]
    rw [e, Nat.zero_add]
    exact ⟨h 0 (by decide), h 1 (by decide), h 2 (by decide), h 3 (by decide), h 4 (by decide), h 5 (by decide)⟩
/-- An object in rows of its own. -/
structure GO (w : World) (g : Fl) : Prop where
  se : ∃ base, OwnR 52 7 encS w base (.slice g.sa g.secs.length g.sc) g.secs
  sy : ∃ base, w.ownsRow base 80 6 (.slice g.ya g.syms.length g.yc) g.syms.length (g.syms.flatMap Sym.cells)
theorem GO.fl {w : World} {g : Fl} (h : GO w g) : FlIn w g := by
  obtain ⟨⟨_, h1⟩, ⟨_, h2⟩⟩ := h
  exact ⟨own_secs h1, own_syms h2⟩
theorem GO.bel {w v : World} {g : Fl} (h : GO w g) (b : Below w.heap.size w v) : GO v g := by
  obtain ⟨⟨b1, h1⟩, ⟨b2, h2⟩⟩ := h
  exact ⟨⟨b1, own_bel h1 b⟩, ⟨b2, own_bel h2 b⟩⟩
theorem GO.step {w v : World} {g : Fl} (h : GO w g) {base n : Nat} {u u' : Value} {ys : List Value} (hr : w.ownsRow base 41 2 u n ys) (hs : Step w v u u') : GO v g := by
  obtain ⟨⟨b1, h1⟩, ⟨b2, h2⟩⟩ := h
  exact ⟨⟨b1, own_step h1 hr hs (by decide)⟩, ⟨b2, own_step h2 hr hs (by decide)⟩⟩
/-- The state of a copy. -/
structure KI (w : World) (B O : Nat) (f : Fl) (va : Option Addr) (vc : Nat) (S' : List Sec) (sa : Option Addr) (sc : Nat) (W : World) : Prop where
  b : Below B w W
  q : Bk W B 41 #[.slice f.sa f.secs.length f.sc, .slice f.ya f.syms.length f.yc]
  p : Bk W (B + 1) 41 #[.slice none 0 0, .slice none 0 0]
  o : Bk W O 41 (encFl2 sa S'.length sc va f.syms.length vc)
  r : OwnR 52 7 encS W (O + 1) (.slice sa S'.length sc) S'
  y : W.ownsRow (B + 2) 80 6 (.slice va f.syms.length vc) f.syms.length (f.syms.flatMap Sym.cells)
section
variable {w : World} {B O : Nat} {f : Fl} {va : Option Addr} {vc : Nat} {S' : List Sec} {sa : Option Addr} {sc : Nat} {W V : World}
theorem KI.bel (h : KI w B O f va vc S' sa sc W) (hB : w.heap.size = B) (g : Below W.heap.size W V) : KI w B O f va vc S' sa sc V :=
  ⟨bt2 hB h.b g, h.q.bel g h.q.lt, h.p.bel g h.p.lt, h.o.bel g h.o.lt, own_bel h.r g, own_bel h.y g⟩
theorem KI.setC (h : KI w B O f va vc S' sa sc W) {S : Nat} {cs : Array Value} (hS : Bk W S 52 cs) (hne : S ≠ B ∧ S ≠ B + 1 ∧ S ≠ O ∧ B ≤ S) (hr : Value.ownBlock (.slice sa S'.length sc) ≠ some S) (j : Nat) (x : Value) : KI w B O f va vc S' sa sc (W.setCell ⟨S, j, none⟩ x) :=
  ⟨bel_setC h.b ⟨S, j, none⟩ hne.2.2.2 _, h.q.setCo _ _ (Ne.symm hne.1), h.p.setCo _ _ (Ne.symm hne.2.1), h.o.setCo _ _ (Ne.symm hne.2.2.1), own_setC h.r hr _ _, own_setC h.y (own_ne_bk h.y hS (by decide)) _ _⟩
theorem KI.put (h : KI w B O f va vc S' sa sc W) (hBO : B + 2 ≤ O) {xa : Option Addr} {xn xc : Nat} {y : Sec} (hs : Step W V (.slice sa S'.length sc) (.slice xa xn xc)) (hr : OwnR 52 7 encS V (O + 1) (.slice xa xn xc) (S' ++ [y])) : KI w B O f va vc (S' ++ [y]) xa xc (V.setCell ⟨O, 0, none⟩ (.slice xa xn xc)) := by
  have hn : xn = (S' ++ [y]).length := own_n hr rfl
  subst hn
  have hO : Bk V O 41 (encFl2 sa S'.length sc va f.syms.length vc) := h.o.turn hs.turn (fun e => own_ne_bk h.r h.o (by decide) e)
  have hq : Bk V B 41 #[.slice f.sa f.secs.length f.sc, .slice f.ya f.syms.length f.yc] := h.q.turn hs.turn (fun e => own_ne_bk h.r h.q (by decide) e)
  have hp : Bk V (B + 1) 41 #[.slice none 0 0, .slice none 0 0] := h.p.turn hs.turn (fun e => own_ne_bk h.r h.p (by decide) e)
  have hy := own_step h.y h.r hs (by decide)
  exact ⟨bel_setC (step_bel h.b h.r (by omega) hs (by have := h.o.lt; omega)) ⟨O, 0, none⟩ (show B ≤ O by omega) _, hq.setCo _ _ (show B ≠ O by omega), hp.setCo _ _ (show B + 1 ≠ O by omega), hO.setC 0 _, own_setC hr (own_ne_bk hr hO (by decide)) _ _, own_setC hy (own_ne_bk hy hO (by decide)) _ _⟩
end
set_option maxHeartbeats 16000000 in
set_option maxRecDepth 20000 in
theorem kown_any (f : Fl) (w : World) (hb : FlB f) (hin : FlIn w f) (hrd : RdF w f) : Calls Try.prog 16 #[f.val] w fun e w' => ∃ g : Fl, e = .returned g.val ∧ LikeF f g ∧ GO w' g ∧ Below w.heap.size w w' := by
  obtain ⟨B, hB⟩ : ∃ B, w.heap.size = B := ⟨_, rfl⟩
  obtain ⟨w1, hw1⟩ : ∃ w1, (w.alloc (.cells #[.slice f.sa f.secs.length f.sc, .slice f.ya f.syms.length f.yc] 41)).alloc (.cells #[.slice none 0 0, .slice none 0 0] 41) = w1 := ⟨_, rfl⟩
  have HB1 : Hid (Below B w w1) := ⟨by rw [← hw1, ← hB]; exact ((Below.refl _ _).alloc (Nat.le_refl _) _).alloc (by simp) _⟩
  have HKQ : Hid (Bk w1 B 41 #[.slice f.sa f.secs.length f.sc, .slice f.ya f.syms.length f.yc]) := ⟨by rw [← hw1, ← hB]; exact (Bk.new _ _ _).alloc _⟩
  have HKP : Hid (Bk w1 (B + 1) 41 #[.slice none 0 0, .slice none 0 0]) := ⟨by
    rw [← hw1, ← hB]
    have := Bk.new (w.alloc (.cells #[.slice f.sa f.secs.length f.sc, .slice f.ya f.syms.length f.yc] 41)) #[.slice none 0 0, .slice none 0 0] 41
    simpa using this⟩
  have HZ1 : Hid (w1.heap.size = B + 2) := ⟨by rw [← hw1, ← hB]; simp⟩
  have HRD : Hid _ := ⟨hrd⟩
  have HIN : Hid _ := ⟨hin⟩
  have hny := hb.ny
  have hns := hb.ns
  clear hin hrd hb
  go_enter Try.func16, Try.ntmps16
  go_upto_region 1 with (fail)
  clear hw1
  have q1 := HKQ.out.cell 1 rfl
  have q1' := cell_al q1 (.cells #[] 80)
  have HRY : Hid _ := ⟨(HRD.out.below HB1.out (Nat.le_of_eq hB)).sy⟩
  have HYZ : Hid _ := ⟨HRD.out.yz⟩
  go_upto_region 2 with (at_builtin; refine append_cp rfl _ _ 39 80 (.agg #[.string ⟨#[]⟩, .string ⟨#[]⟩, .int .i64 0, .int .i64 0, .int .i64 0, .int .i64 0]) 6 64 rfl Try.underlying39 infoYm rfl (by decide) rfl rfl HRY.out HYZ.out (by unfold maxLen; omega) (by omega) ?_; intro va vc w2 ho2 hb2; have HO2 : Hid _ := ⟨ho2⟩; have HB2 : Hid _ := ⟨hb2⟩; clear ho2 hb2)
  clear q1 q1' HRY HYZ
  obtain ⟨O, hO⟩ : ∃ O, w2.heap.size = O := ⟨_, rfl⟩
  have HNO : Hid (B + 2 ≤ O) := ⟨by have := HB2.out.size; have := HZ1.out; omega⟩
  have HBB : Hid (Below B w (w2.alloc (.cells #[.slice none 0 0, .slice va f.syms.length vc] 41))) := ⟨(HB1.out.trans (HB2.out.mono (by have := HZ1.out; omega))).alloc (by have := HNO.out; omega) _⟩
  have HKQ2 : Hid (Bk (w2.alloc (.cells #[.slice none 0 0, .slice va f.syms.length vc] 41)) B 41 #[.slice f.sa f.secs.length f.sc, .slice f.ya f.syms.length f.yc]) := ⟨(HKQ.out.bel HB2.out HKQ.out.lt).alloc _⟩
  have HKP2 : Hid (Bk (w2.alloc (.cells #[.slice none 0 0, .slice va f.syms.length vc] 41)) (B + 1) 41 #[.slice none 0 0, .slice none 0 0]) := ⟨(HKP.out.bel HB2.out HKP.out.lt).alloc _⟩
  have HKO : Hid (Bk (w2.alloc (.cells #[.slice none 0 0, .slice va f.syms.length vc] 41)) O 41 (encFl2 none 0 0 va f.syms.length vc)) := ⟨by rw [← hO]; exact Bk.new _ _ _⟩
  have HOY : Hid ((w2.alloc (.cells #[.slice none 0 0, .slice va f.syms.length vc] 41)).ownsRow (B + 2) 80 6 (.slice va f.syms.length vc) f.syms.length (f.syms.flatMap Sym.cells)) := ⟨by
    have := World.ownsRow.alloc HO2.out (.cells #[.slice none 0 0, .slice va f.syms.length vc] 41)
    rwa [HZ1.out] at this⟩
  have hz3 : O < (w2.alloc (.cells #[.slice none 0 0, .slice va f.syms.length vc] 41)).heap.size := by simp; omega
  have HZ3 : Hid _ := ⟨hz3⟩
  rw [hO]
  clear hO HB2 HO2 HKQ HKP hz3
  generalize w2.alloc (.cells #[.slice none 0 0, .slice va f.syms.length vc] 41) = w3 at *
  go_upto_region 3 with (fail)
  go_loopw [4] (fun i wr => ∃ (k : Nat) (S' : List Sec) (sa : Option Addr) (sc : Nat), k ≤ f.secs.length ∧ i = .int .i64 k ∧ Hid (S'.map Sec.key = (f.secs.take k).map Sec.key ∧ KI w B O f va vc S' sa sc wr)) (fun i _ => f.secs.length - (intOf i).toNat)
  case atStart => exact ⟨0, [], none, 0, by omega, rfl, ⟨rfl, HBB.out, HKQ2.out, HKP2.out, HKO.out, OwnR.nil _ _, HOY.out⟩⟩
  case round =>
    obtain ⟨k, S', sa, sc, hk, rfl, HW⟩ := hrel
    have q0 := HW.out.2.q.cell 0 rfl
    by_cases hlt : k < f.secs.length
    · obtain ⟨b, off, hsa, hse⟩ : ∃ b off, f.sa = some ⟨b, off, none⟩ ∧ ∀ i, i < f.secs.length → SecAt wr b (off + i * 7) (f.secs.getD i Sec.zero) := by
        rcases (HIN.out.se.below HW.out.2.b (Nat.le_of_eq hB)) with h | h
        · rw [h] at hlt; simp at hlt
        · exact h
      have hs := hse k hlt
      have hgd : f.secs.getD k Sec.zero = f.secs[k] := by simp [hlt]
      rw [hgd] at hs
      have HRS : Hid _ := ⟨(HRD.out.below HW.out.2.b (Nat.le_of_eq hB)).se _ (List.getElem_mem hlt)⟩
      have HRA : Hid (∀ W, Below B w W → RdS W f.secs[k]) := ⟨fun W h => (HRD.out.below h (Nat.le_of_eq hB)).se _ (List.getElem_mem hlt)⟩
      have HTK : Hid ((f.secs.take (k + 1)).map Sec.key = (f.secs.take k).map Sec.key ++ [f.secs[k].key]) := ⟨by rw [List.take_succ_eq_append_getElem hlt, List.map_append]; rfl⟩
      obtain ⟨x, hx⟩ : ∃ x, x = f.secs[k] := ⟨_, rfl⟩
      rw [← hx] at hs HRS HTK HRA
      clear hx hgd hse
      obtain ⟨nm, ty, fl, al, da, dn, dc, sz, ra, rn, rc⟩ := x
      obtain ⟨c0, c1, c2, c3, c4, c5, c6⟩ := hs
      dsimp only at *
      rw [hsa] at q0
      clear hsa
      go_upto_region 6 with (fail)
      have HXB : Hid (Bk (wr.alloc (.cells #[.string nm, .int .i64 ty, .int .i64 fl, .int .i64 al, .slice da dn dc, .int .i64 sz, .slice ra rn rc] 52)) wr.heap.size 52 #[.string nm, .int .i64 ty, .int .i64 fl, .int .i64 al, .slice da dn dc, .int .i64 sz, .slice ra rn rc]) := ⟨Bk.new _ _ _⟩
      have HKI : Hid (KI w B O f va vc S' sa sc (wr.alloc (.cells #[.string nm, .int .i64 ty, .int .i64 fl, .int .i64 al, .slice da dn dc, .int .i64 sz, .slice ra rn rc] 52))) := ⟨HW.out.2.bel hB ((Below.refl _ _).alloc (Nat.le_refl _) _)⟩
      have HRS1 : Hid _ := ⟨HRS.out.below ((Below.refl wr.heap.size wr).alloc (Nat.le_refl _) (.cells #[.string nm, .int .i64 ty, .int .i64 fl, .int .i64 al, .slice da dn dc, .int .i64 sz, .slice ra rn rc] 52)) (Nat.le_refl _)⟩
      have HNE : Hid ((wr.heap.size ≠ B ∧ wr.heap.size ≠ B + 1 ∧ wr.heap.size ≠ O ∧ B ≤ wr.heap.size) ∧ Value.ownBlock (.slice sa S'.length sc) ≠ some wr.heap.size ∧ O < wr.heap.size) := ⟨by
        have h1 := HW.out.2.q.lt
        have h2 := HW.out.2.p.lt
        have h3 := HW.out.2.o.lt
        exact ⟨⟨by omega, by omega, by omega, by omega⟩, fun e => by have := (own_cells2 HW.out.2.r _ e).2.1; omega, h3⟩⟩
      have HMK : Hid (S'.map Sec.key = (f.secs.take k).map Sec.key) := ⟨HW.out.1⟩
      have HLS : Hid (S'.length ≤ 1048577) := ⟨by have := congrArg List.length HW.out.1; simp at this; omega⟩
      clear HW HRS c0 c1 c2 c3 c4 c5 c6 q0
      obtain ⟨S, hS⟩ : ∃ S, wr.heap.size = S := ⟨_, rfl⟩
      rw [hS] at HXB HNE ⊢
      clear hS
      generalize (wr.alloc (.cells #[.string nm, .int .i64 ty, .int .i64 fl, .int .i64 al, .slice da dn dc, .int .i64 sz, .slice ra rn rc] 52)) = v1 at *
      obtain ⟨yd, hyd⟩ := HRS1.out.da
      have HYD : Hid _ := ⟨hyd⟩
      have HDZ : Hid _ := ⟨HRS1.out.dz⟩
      have HRZ : Hid _ := ⟨HRS1.out.rz⟩
      have hdn := HRS1.out.dn
      have hrn := HRS1.out.rn
      dsimp only at hdn hrn
      clear hyd
      have x4 := HXB.out.cell 4 rfl
      have x4' := cell_al x4 (.cells #[] 5)
      go_upto_region 7 with (at_builtin; refine append_cp rfl _ _ 49 5 (.int .u8 0) 1 1 rfl Try.underlying49 infoB rfl (by decide) rfl rfl HYD.out HDZ.out (by unfold maxLen; omega) (by omega) ?_; intro da2 dc2 v2 ho2 hb2; have HB2 : Hid _ := ⟨hb2⟩; clear ho2 hb2; have HX2 : Hid (Bk v2 S 52 #[.string nm, .int .i64 ty, .int .i64 fl, .int .i64 al, .slice da dn dc, .int .i64 sz, .slice ra rn rc]) := ⟨HXB.out.bel HB2.out HXB.out.lt⟩; have z4 := HX2.out.cell 4 rfl; have zf4 := HX2.out.fro 4; go_frame)
      have HK2 : Hid (KI w B O f va vc S' sa sc v2) := ⟨HKI.out.bel hB HB2.out⟩
      have HRS2 : Hid _ := ⟨HRS1.out.below HB2.out (Nat.le_refl _)⟩
      have HX3 : Hid (Bk (v2.setCell ⟨S, 4, none⟩ (.slice da2 dn dc2)) S 52 #[.string nm, .int .i64 ty, .int .i64 fl, .int .i64 al, .slice da2 dn dc2, .int .i64 sz, .slice ra rn rc]) := ⟨HX2.out.setC 4 _⟩
      have HK3 : Hid (KI w B O f va vc S' sa sc (v2.setCell ⟨S, 4, none⟩ (.slice da2 dn dc2))) := ⟨HK2.out.setC HX2.out HNE.out.1 HNE.out.2.1 4 _⟩
      clear HB2 HX2 HK2 HRS2 HXB HKI HRS1 HYD HDZ x4 x4' z4 zf4 hdn
      generalize (v2.setCell ⟨S, 4, none⟩ (.slice da2 dn dc2)) = v3 at *
      obtain ⟨yr, hyr⟩ := (HRA.out _ HK3.out.b).ra
      have HYR : Hid _ := ⟨hyr⟩
      clear hyr
      have x6 := HX3.out.cell 6 rfl
      have x6' := cell_al x6 (.cells #[] 82)
      go_upto_region 8 with (at_builtin; refine append_cp rfl _ _ 50 82 (.agg #[.int .i64 0, .int .i64 0, .string ⟨#[]⟩, .int .i64 0]) 4 40 rfl Try.underlying50 infoRl rfl (by decide) rfl rfl HYR.out HRZ.out (by unfold maxLen; omega) (by omega) ?_; intro ra2 rc2 v4 ho4 hb4; have HB4 : Hid _ := ⟨hb4⟩; clear ho4 hb4; have HX4 : Hid (Bk v4 S 52 #[.string nm, .int .i64 ty, .int .i64 fl, .int .i64 al, .slice da2 dn dc2, .int .i64 sz, .slice ra rn rc]) := ⟨HX3.out.bel HB4.out HX3.out.lt⟩; have z6 := HX4.out.cell 6 rfl; have zf6 := HX4.out.fro 6; go_frame)
      have HK4 : Hid (KI w B O f va vc S' sa sc v4) := ⟨HK3.out.bel hB HB4.out⟩
      have HX5 : Hid (Bk (v4.setCell ⟨S, 6, none⟩ (.slice ra2 rn rc2)) S 52 #[.string nm, .int .i64 ty, .int .i64 fl, .int .i64 al, .slice da2 dn dc2, .int .i64 sz, .slice ra2 rn rc2]) := ⟨HX4.out.setC 6 _⟩
      have HK5 : Hid (KI w B O f va vc S' sa sc (v4.setCell ⟨S, 6, none⟩ (.slice ra2 rn rc2))) := ⟨HK4.out.setC HX4.out HNE.out.1 HNE.out.2.1 6 _⟩
      clear HB4 HX4 HK4 HX3 HK3 HYR HRZ x6 x6' z6 zf6 hrn
      generalize (v4.setCell ⟨S, 6, none⟩ (.slice ra2 rn rc2)) = v5 at *
      have s0 := HX5.out.cell 0 rfl
      have s1 := HX5.out.cell 1 rfl
      have s2 := HX5.out.cell 2 rfl
      have s3 := HX5.out.cell 3 rfl
      have s4 := HX5.out.cell 4 rfl
      have s5 := HX5.out.cell 5 rfl
      have s6 := HX5.out.cell 6 rfl
      have o0 := HK5.out.o.cell 0 rfl
      have HO5 : Hid (O + 1 ≤ v5.heap.size) := ⟨HK5.out.o.lt⟩
      go_upto_region 4 with (at_builtin; refine append_R rfl _ _ 38 (.agg (encS Sec.zero).toArray) 96 rfl Try.underlying38 infoS (by kernel_rfl) (by decide) encS_len encS_one rfl HK5.out.r (⟨nm, ty, fl, al, da2, dn, dc2, sz, ra2, rn, rc2⟩ : Sec) rfl (by simp) rfl (by have := HLS.out; unfold maxLen; omega) (by have := HLS.out; omega) HO5.out ?_; intro rv v6 hr6 hs6; obtain ⟨xa, xn, xc, hxv⟩ := own_sl hr6; subst hxv; have HR6 : Hid _ := ⟨hr6⟩; have HS6 : Hid (Step v5 v6 (.slice sa S'.length sc) (.slice xa xn xc)) := ⟨hs6⟩; clear hr6 hs6; have HK6o : Hid (Bk v6 O 41 (encFl2 sa S'.length sc va f.syms.length vc)) := ⟨HK5.out.o.turn HS6.out.turn (fun e => own_ne_bk HK5.out.r HK5.out.o (by decide) e)⟩; have t0 := HK6o.out.cell 0 rfl; have tf0 := HK6o.out.fro 0; go_frame)
      have HK7 : Hid (KI w B O f va vc (S' ++ [(⟨nm, ty, fl, al, da2, dn, dc2, sz, ra2, rn, rc2⟩ : Sec)]) xa xc (v6.setCell ⟨O, 0, none⟩ (.slice xa xn xc))) := ⟨HK5.out.put HNO.out HS6.out HR6.out⟩
      have HM7 : Hid ((S' ++ [(⟨nm, ty, fl, al, da2, dn, dc2, sz, ra2, rn, rc2⟩ : Sec)]).map Sec.key = (f.secs.take (k + 1)).map Sec.key) := ⟨by rw [HTK.out, List.map_append, HMK.out]; rfl⟩
      clear HK5 HX5 HK6o HR6 HS6 s0 s1 s2 s3 s4 s5 s6 o0 t0 tf0 HTK HMK HRA HO5
      generalize (v6.setCell ⟨O, 0, none⟩ (.slice xa xn xc)) = v7 at *
      go_wp2_with fail
      go_roundw
      case rel => first | exact ⟨k + 1, _, _, _, hlt, by go_num, ⟨HM7.out, HK7.out⟩⟩ | (trace_state; fail "x")
      case measure => simp [intOf]; omega
    · obtain rfl : k = f.secs.length := by omega
      rw [List.take_of_length_le (Nat.le_refl _)] at HW
      have KP := HW.out.2.p
      have KE := KP.setR (encFl2 sa S'.length sc va f.syms.length vc)
      have HFB : Hid (Below w.heap.size w (wr.setRow (B + 1) (encFl2 sa S'.length sc va f.syms.length vc))) := ⟨by rw [hB]; exact bel_setR HW.out.2.b (B + 1) (Nat.le_succ B) _⟩
      have HR9 : Hid (OwnR 52 7 encS (wr.setRow (B + 1) (encFl2 sa S'.length sc va f.syms.length vc)) (O + 1) (.slice sa S'.length sc) S') := ⟨own_setR (M := B + 1) HW.out.2.r (fun q hq e => by subst e; exact own_ne_bk HW.out.2.r KP (by decide) hq) _⟩
      have HY9 : Hid ((wr.setRow (B + 1) (encFl2 sa S'.length sc va f.syms.length vc)).ownsRow (B + 2) 80 6 (.slice va f.syms.length vc) f.syms.length (f.syms.flatMap Sym.cells)) := ⟨own_setR (M := B + 1) HW.out.2.y (fun q hq e => by subst e; exact own_ne_bk HW.out.2.y KP (by decide) hq) _⟩
      have HFI : Hid (LikeF f (⟨sa, sc, S', va, vc, f.syms⟩ : Fl) ∧ GO (wr.setRow (B + 1) (encFl2 sa S'.length sc va f.syms.length vc)) (⟨sa, sc, S', va, vc, f.syms⟩ : Fl)) := ⟨⟨HW.out.1, rfl⟩, ⟨⟨_, HR9.out⟩, ⟨_, HY9.out⟩⟩⟩
      go_upto_region 9 with (fail)
      iterate 1 go_step
      refine wpList_load_of (p := ⟨O, 0, none⟩) (v := .agg (encFl2 sa S'.length sc va f.syms.length vc)) rfl (by kernel_rfl) (by kernel_rfl) (HW.out.2.o.loadA 0 _ Try.underlying41 sizeF rfl rfl) ?_
      try simp only [Act.put, List.getElem_toArray, List.getElem_cons_succ, List.getElem_cons_zero, List.setIfInBounds_toArray, List.set_cons_zero, List.set_cons_succ]
      refine wpList_part (g := B + 1) (off := 0) (val := .agg (encFl2 sa S'.length sc va f.syms.length vc)) (new := (encFl2 sa S'.length sc va f.syms.length vc)) rfl rfl (by kernel_rfl) (by kernel_rfl) KP (by kernel_rfl) (Nat.le_of_ble_eq_true (by kernel_rfl)) (oneAll (by kernel_rfl)) (by kernel_rfl) ?_
      try simp only [Act.put, List.getElem_toArray, List.getElem_cons_succ, List.getElem_cons_zero, List.setIfInBounds_toArray, List.set_cons_zero, List.set_cons_succ]
      refine wpList_nil ?_
      clear HW
      go_wp2_with fail
      exact bodyPost_ret (v := .agg (encFl2 sa S'.length sc va f.syms.length vc)) (results_cell_row (p := 2) (ty := 41) (by kernel_rfl) _ _ (B + 1) 41 _ (0, 0) _ (by kernel_rfl) KE.hp Try.underlying41 rfl (by kernel_rfl)) rfl ⟨(⟨sa, sc, S', va, vc, f.syms⟩ : Fl), rfl, HFI.out.1, HFI.out.2, HFB.out⟩
end Go.Proofs.Ytojiomkinhnodaa
