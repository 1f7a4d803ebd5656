/- inOrder: the variables of a row, each once, as they stand in the queue's. -/
import Derived.Test.YtjnifadfcnpdoaaImp
namespace Go.Proofs.Ytjnifadfcnpdoaa
open Go.RowKit Go.Maps Go.Shelf
set_option linter.unusedVariables false
set_option maxRecDepth 100000

/-- A row of numbers that is only read. -/
def Iw (W : World) (a : Option Addr) (l : List Int) : Prop := l = [] ∨ ∃ b off, a = some ⟨b, off, none⟩ ∧ ∀ j, j < l.length → W.cell? ⟨b, off + j, none⟩ = some (.int .i64 (l.getD j 0))
theorem Iw.below {W W' : World} {a : Option Addr} {l : List Int} {N : Nat} (h : Iw W a l) (hb : Below N W W') (hn : ∀ b off, a = some ⟨b, off, none⟩ → b < N) : Iw W' a l := by
  rcases h with h | ⟨b, off, rfl, h⟩
  · exact .inl h
  · exact .inr ⟨b, off, rfl, fun j hj => (hb.cell (p := ⟨b, off + j, none⟩) (hn b off rfl)).trans (h j hj)⟩
theorem Iw.all {W W' : World} {a : Option Addr} {l : List Int} (h : Iw W a l) (hb : Below W.heap.size W W') : Iw W' a l := by
  rcases h with h | ⟨b, off, rfl, h⟩
  · exact .inl h
  · exact .inr ⟨b, off, rfl, fun j hj => (hb.cell (p := ⟨b, off + j, none⟩) (cell_lt (h j hj))).trans (h j hj)⟩
theorem Iw.blk {W : World} {a : Option Addr} {l : List Int} (h : Iw W a l) (h0 : 0 < l.length) : ∃ b off, a = some ⟨b, off, none⟩ := by
  rcases h with h | ⟨b, off, rfl, h⟩
  · rw [h] at h0; cases h0
  · exact ⟨b, off, rfl⟩
theorem Iw.at {W : World} {b off : Nat} {l : List Int} (h : Iw W (some ⟨b, off, none⟩) l) {j : Nat} (hj : j < l.length) : W.cell? ⟨b, off + j, none⟩ = some (.int .i64 (l.getD j 0)) := by
  rcases h with h | ⟨b', off', e, h⟩
  · rw [h] at hj; cases hj
  · cases e; exact h j hj
theorem has_i64 {w : World} {b n : Nat} {D : DataW Value} (hown : w.ownsMap Try.prog 3 raw b n D) {x : Int} (h : Maps.has D (.int .i64 x) = true) : I64 x := by
  obtain ⟨es, rfl, hko⟩ := hown.keysOf
  rw [has_eq, List.any_eq_true] at h
  obtain ⟨p, hp, hs⟩ := h
  obtain ⟨v, hv⟩ := hko p hp
  obtain ⟨y, _, hy, hl⟩ := Maps.keyOf_i64 Try.underlying3 hv
  rw [hy] at hs
  obtain rfl : x = y := by simpa [Lit.sameKey, eq_comm] using hs
  simp [Lit.wf, IntKind.min, IntKind.max, IntKind.signed, IntKind.bits] at hl
  exact ⟨by omega, by omega⟩
/-- The map of ranks. -/
def mapF (rk : List Int) (l : List Int) (id : Int) : Option Value := if id ∈ l then some (.int .i64 (rk.getD id.toNat 0)) else none
theorem mapF_nil (rk : List Int) : mapF rk [] = fun _ => none := by funext id; simp [mapF]
theorem mapF_snoc (rk l : List Int) (x : Int) : upd (mapF rk l) x (some (.int .i64 (rk.getD x.toNat 0))) = mapF rk (l ++ [x]) := by
  funext id
  unfold upd mapF
  by_cases h : id = x
  · subst h; simp
  · by_cases h2 : id ∈ l <;> simp [h, h2]
def gR (rk l : List Int) (v : Nat) : Int := if (v : Int) ∈ l then rk.getD v 0 else 0
theorem rnk_map (rk l : List Int) : rnk (mapF rk l) (gR rk l) := by
  intro v _
  unfold mapF gR
  by_cases h : (v : Int) ∈ l <;> simp [h]
/-- The keys of the map of ranks: what is to be moved. -/
theorem keys_gone {W : World} {bm k : Nat} {rk l : List Int} {L : List Nat} (hm : Mp W bm k (mapF rk l)) (hL : L.Nodup) (hr : ∀ v ∈ L, v ≤ 1048576) (hw : ∀ x ∈ l, ∃ v ∈ L, x = (v : Int)) :
    ∃ D, W.ownsMap Try.prog 3 raw bm k D ∧ ∀ ss : List Int, ss.Perm (intKeys D) → ∃ vs : List Nat, ss = vs.map (fun v : Nat => (v : Int)) ∧ vs.Perm (Qp.gone l L) := by
  obtain ⟨D, hown, hD⟩ := hm
  have hc : CollectedI D (fun _ => false) ((Qp.gone l L).map (fun v : Nat => (v : Int))) := by
    refine ⟨List.Pairwise.map _ (fun a b h e => h (Int.ofNat.inj e)) (hL.sublist List.filter_sublist : (Qp.gone l L).Nodup), fun x => ?_⟩
    constructor
    · intro h
      obtain ⟨v, hv, rfl⟩ := List.mem_map.1 h
      obtain ⟨h1, h2⟩ := List.mem_filter.1 hv
      have h3 : (v : Int) ∈ l := by simpa [Qp.inL] using h2
      have hi : I64 (v : Int) := by have := hr v h1; exact ⟨by omega, by omega⟩
      refine ⟨?_, rfl⟩
      rw [(hD _ hi).1]
      simp [mapF, h3]
    · rintro ⟨h, _⟩
      have hi := has_i64 hown h
      rw [(hD x hi).1] at h
      have h3 : x ∈ l := by
        unfold mapF at h
        by_cases h4 : x ∈ l
        · exact h4
        · simp [h4] at h
      obtain ⟨v, hv, rfl⟩ := hw x h3
      exact List.mem_map.2 ⟨v, List.mem_filter.2 ⟨hv, by simpa [Qp.inL] using h3⟩, rfl⟩
  have hp := hc.perm hown klawMp Try.underlying3 (fun _ => rfl)
  refine ⟨D, hown, fun ss hs => ?_⟩
  have h1 : ss.Perm ((Qp.gone l L).map (fun v : Nat => (v : Int))) := hs.trans hp.symm
  refine ⟨ss.map Int.toNat, ?_, ?_⟩
  · rw [List.map_map, List.map_congr_left (g := id), List.map_id]
    intro x hx
    obtain ⟨v, hv, rfl⟩ := List.mem_map.1 (h1.mem_iff.1 hx)
    simp
  · refine (h1.map Int.toNat).trans ?_
    rw [List.map_map, List.map_congr_left (g := id), List.map_id]
    intro v _
    simp
theorem pw_gR {rk l : List Int} {L vs : List Nat} (hp : vs.Perm (Qp.gone l L)) (h : vs.Pairwise (fun a b => gR rk l a ≤ gR rk l b)) : vs.Pairwise (fun a b => rk.getD a 0 ≤ rk.getD b 0) := by
  have hin : ∀ v ∈ vs, gR rk l v = rk.getD v 0 := fun v hv => by
    have := (List.mem_filter.1 (hp.mem_iff.1 hv)).2
    have h3 : (v : Int) ∈ l := by simpa [Qp.inL] using this
    simp [gR, h3]
  refine h.imp_of_mem (fun {a b} ha hb hab => ?_)
  rw [hin a ha, hin b hb] at hab
  exact hab
/-- Keys, then a sort by what stands under them. -/
theorem sorted38 {W : World} {pb kb bm k : Nat} {rk l : List Int} {L : List Nat} (hp : W.cell? ⟨pb, 0, none⟩ = some (.map (some bm))) (hk : W.cell? ⟨kb, 0, none⟩ = some (.map (some bm))) (hm : Mp W bm k (mapF rk l)) (hk8 : k ≤ 1048576)
    (hL : L.Nodup) (hr : ∀ v ∈ L, v ≤ 1048576) (hrk : L.Pairwise (fun a b => rk.getD a 0 < rk.getD b 0)) (hw : ∀ x ∈ l, ∃ v ∈ L, x = (v : Int)) (h0 : 0 < (Qp.gone l L).length) (hl8 : (Qp.gone l L).length ≤ 1048576) :
    Calls Try.prog 38 #[.func (.func 44) #[] #[.pointer (some ⟨kb, 0, none⟩)], .func (.func 40) #[] #[.pointer (some ⟨pb, 0, none⟩)]] W fun e w' => OrdOut W (Qp.gone l L) e w' := by
  obtain ⟨D, hown, hD⟩ := keys_gone hm hL hr hw
  have hsz := hown.size_le
  have hseq : SeqGives Fence.wide 3 Try.prog 44 #[.pointer (some ⟨kb, 0, none⟩)] encZ (fun ss => ss.Perm (intKeys D)) (Maps.size D) W :=
    AnyZI.keys_gives (ρ := Try.keysA_ren) { Try.keysA with } Fence.wide _ trivial rfl (by omega) kb bm k D _ (cell_lt hk) hk hown
  have cS := AnyZI.collect_in Try.collA Fence.wide 5 trivial trivial rfl (by omega) 44 #[.pointer (some ⟨kb, 0, none⟩)] trivial (enters_of Try.func44 (by kernel_rfl) rfl) _ _ (by unfold maxLen; omega) (by omega) _ hseq
  change CallsIn _ _ Try.prog 42 _ _ _ at cS
  have C42 := hid (callsIn_wide.1 cS)
  have hpl := cell_lt hp
  have hml := hm.lt
  have C43 := hid (fun (w : World) (o : Option Addr) (n c : Nat) (vs : List Nat) (h : w.ownsRow W.heap.size 3 1 (.slice o n c) n (inn vs)) (hv : vs.Perm (Qp.gone l L)) (hb : Below W.heap.size W w) =>
    sort43 (pb := pb) (bm := bm) (k := k) (f := mapF rk l) (g := gR rk l) h (by have := inn_len h; rw [← this, hv.length_eq]; exact h0) (by have := inn_len h; rw [← this, hv.length_eq]; exact hl8) hb.size (fun v hv' => hr v (List.mem_filter.1 (hv.mem_iff.1 hv')).1)
      ((hb.cell (p := ⟨pb, 0, none⟩) hpl).trans hp) (hm.same (hb.block bm hml)) (rnk_map rk l) hpl hml)
  have HD := hid hD
  have HR := hid hrk
  clear hown hD hsz hseq cS hm hL hr hrk hw h0 hp hk hk8 hpl hml hl8
  go_enter Try.func38, Try.ntmps38
  go_wp2_with (fail)
  go_at_call 42
  refine C42.out.mono ?_
  rintro e w1 ⟨v, ss, rfl, hS, hrow, hnil, hb⟩
  obtain ⟨vs, rfl, hvs⟩ := HD.out ss hS
  obtain ⟨o, c, rfl⟩ := own_slc hrow
  rw [List.length_map] at hrow
  rw [List.length_map]
  have hrow2 : w1.ownsRow W.heap.size 3 1 (.slice o vs.length c) vs.length (inn vs) := by
    rw [List.map_map] at hrow
    exact hrow
  have C43' := hid (C43.out w1 o vs.length c vs hrow2 hvs hb)
  have HV := hid hvs
  have HB := hid hb
  clear hS hrow hnil hb hvs hrow2 C43 C42
  obtain ⟨n, hn⟩ : ∃ n, vs.length = n := ⟨_, rfl⟩
  have HN := hid hn
  rw [hn] at C43' ⊢
  clear hn
  go_wp2_with (fail)
  go_at_call 43
  refine C43'.out.mono ?_
  rintro e w2 ⟨rfl, vs', hp', hs', ho', hb'⟩
  have HO := hid (show OrdOut W (Qp.gone l L) (.returned (.slice o n c)) w2 from by
    have e1 : vs' = Qp.gone l L := Qp.sorted_gone (rk := fun v => rk.getD v 0) HR.out l (hp'.trans HV.out) (pw_gR (hp'.trans HV.out) hs')
    have e2 : (Qp.gone l L).length = n := by rw [← HN.out, HV.out.length_eq]
    rw [e1] at ho'
    rw [← e2] at ho' ⊢
    exact ⟨o, c, rfl, ho', HB.out.trans hb'⟩)
  clear hp' hs' ho' hb'
  go_wp2
  go_ret
  exact HO.out
theorem take_snocI (l : List Int) {k : Nat} (h : k < l.length) : l.take (k + 1) = l.take k ++ [l.getD k 0] := by
  rw [List.take_succ_eq_append_getElem h, List.getD_eq_getElem?_getD, List.getElem?_eq_getElem h]; rfl
theorem Mp.below {W W' : World} {bm n : Nat} {f : Int → Option Value} (h : Mp W bm n f) (hb : Below W.heap.size W W') : Mp W' bm n f := h.same (hb.block bm h.lt)
theorem turned_below {W W' : World} {bm base : Nat} (h : W.mapTurned W' bm) (hb : base ≤ bm) (hs : base ≤ W.heap.size) : Below base W W' := by
  obtain ⟨es, clock, es', clock', hb', rfl⟩ := h
  exact ⟨rfl, rfl, rfl, (World.mapTurned.grown ⟨es, clock, es', clock', hb', rfl⟩).size, fun i hi => (World.mapTurned.grown ⟨es, clock, es', clock', hb', rfl⟩).block i (by omega) (fun e => by injection e; omega)⟩
/-- While the map of ranks is filled. -/
structure InI (W : World) (bm : Nat) (rk l : List Int) (k : Nat) (w : World) : Prop where
  map : Mp w bm k (mapF rk (l.take k))
  box : w.cell? ⟨bm + 1, 0, none⟩ = some (.map (some bm))
  bel : Below W.heap.size W w
set_option maxHeartbeats 4000000 in
theorem inOrder32 {A : Adr} {n : Nat} {K : Int} {L : List Nat} {st : List Int} {W : World} (H : Qx A n K L st W) (hL : ∀ v, 1 ≤ v → v ≤ n → v ∈ L) {a : Option Addr} {c : Nat} {l : List Int} (h : Iw W a l) (h0 : 0 < l.length) (hl8 : l.length ≤ 1048576) (hw : ∀ x ∈ l, 1 ≤ x ∧ x ≤ n) :
    Calls Try.prog 32 #[.pointer (some ⟨A.qb, 0, none⟩), .slice a l.length c] W fun e w' => OrdOut W (Qp.gone l L) e w' := by
  obtain ⟨ah, bh, rk, lk, h1, h2⟩ := H
  obtain ⟨b, off, rfl⟩ := h.blk h0
  have hmx := h2.mx
  have HX := hid (fun (w : World) (hb : Below W.heap.size W w) => show w.cell? ⟨A.qb, 2, none⟩ = some (.slice (some ⟨A.gr, 0, none⟩) (n + 1) A.cr) ∧ ∀ k, k < l.length → w.cell? ⟨b, off + k, none⟩ = some (.int .i64 (l.getD k 0)) ∧ w.cell? ⟨A.gr, (l.getD k 0).toNat, none⟩ = some (.int .i64 (rk.getD (l.getD k 0).toNat 0)) ∧ 1 ≤ l.getD k 0 ∧ l.getD k 0 < (n + 1 : Nat) from by
    refine ⟨row_cell (h1.below hb).blk 2, fun k hk => ?_⟩
    have hv : l.getD k 0 ∈ l := by rw [List.getD_eq_getElem?_getD, List.getElem?_eq_getElem hk]; exact List.getElem_mem hk
    have hr := hw _ hv
    refine ⟨(h.all hb).at hk, ?_, by omega, by omega⟩
    rw [(own_cell (h1.below hb).rks (k := (l.getD k 0).toNat) (by omega)).1, iss_at (by have := h1.len; omega)])
  have HG := hid h2
  have HSO := hid (fun (w : World) (pb kb bm k : Nat) hp hk hm hk8 => sorted38 (W := w) (pb := pb) (kb := kb) (bm := bm) (k := k) (rk := rk) (l := l) (L := L) hp hk hm hk8 h2.nd (fun v hv => by have := h2.rg v hv; omega) h2.rs (fun x hx => by
      have := hw x hx
      exact ⟨x.toNat, hL _ (by omega) (by omega), by omega⟩) (by
      obtain ⟨x, l', rfl⟩ : ∃ x l', l = x :: l' := by cases l with | nil => cases h0 | cons x l' => exact ⟨x, l', rfl⟩
      have := hw x (.head _)
      exact List.length_pos_of_mem (a := x.toNat) (List.mem_filter.2 ⟨hL _ (by omega) (by omega), by simp [Qp.inL]; left; omega⟩)) (by
      have h3 : (Qp.gone l L).length ≤ L.length := List.length_filter_le _ _
      have h4 := List.Nodup.length_le_of_subset (l₂ := List.range' 1 n) h2.nd (fun x hx => by have := h2.rg x hx; rw [List.mem_range'_1]; omega)
      simp at h4
      omega))
  obtain ⟨m, hm⟩ : ∃ m, n + 1 = m := ⟨_, rfl⟩
  rw [hm] at HX
  obtain ⟨t, ht⟩ : ∃ t, l.length = t := ⟨_, rfl⟩
  have HT := hid ht
  have HT8 := hid hl8
  rw [ht]
  clear h1 h2 h hmx hw hL h0 hl8 ht
  have hmk : (Instr.makeMap 63 none).run Try.prog W = .ok (.map (some W.heap.size)) (W.alloc (.map #[] 0)) := by simp [Instr.makeMap, Result.andThen]
  go_enter Try.func32, Try.ntmps32
  go_wp2_with (fail)
  have hB := (Below.refl W.heap.size W).alloc (Nat.le_refl _) (.map #[] 0)
  have hB2 := hB.alloc hB.size (.cells #[.map (some W.heap.size)] 63)
  have HS0 := hid (show InI W W.heap.size rk l 0 ((W.alloc (.map #[] 0)).alloc (.cells #[.map (some W.heap.size)] 63)) from by
    refine ⟨?_, ?_, hB2⟩
    · rw [List.take_zero, mapF_nil]
      exact (Mp.new W).below (below_box _ _)
    · exact row_cell (cs := #[.map (some W.heap.size)]) (t := 63) (fr := (0, 0)) (by have := heap_alloc_new (W.alloc (.map #[] 0)) (.cells #[.map (some W.heap.size)] 63); rw [show (W.alloc (.map #[] 0)).heap.size = W.heap.size + 1 by simp] at this; exact this) 0)
  clear hB hB2 hmk
  generalize (W.alloc (.map #[] 0)).alloc (.cells #[.map (some W.heap.size)] 63) = X at *
  obtain ⟨bm, hbm⟩ : ∃ bm, W.heap.size = bm := ⟨_, rfl⟩
  have HBM := hid hbm
  rw [hbm] at HS0 ⊢
  clear hbm
  go_loopw [11] (fun i wr => ∃ k : Nat, k ≤ t ∧ i = .int .i64 (k : Nat) ∧ Hid (InI W bm rk l k wr)) (fun i _ => t - (intOf i).toNat)
  case atStart => exact ⟨0, Nat.zero_le _, rfl, HS0⟩
  case round =>
    obtain ⟨k, hkt, rfl, HR⟩ := hrel
    by_cases hlt : k < t
    · have hlt' : (k : Int) < t := by omega
      have hwk : wrap64 ((k : Int) + 1) = (k : Int) + 1 := by have := HT8.out; have := HT.out; unfold wrap64; omega
      obtain ⟨x0, xr⟩ := HX.out wr HR.out.bel
      obtain ⟨x1, x2, x3, x4⟩ := xr k (by rw [HT.out]; exact hlt)
      have xp := HR.out.box
      have hE := take_snocI l (by rw [HT.out]; exact hlt)
      have hput := (HR.out.map.below (W' := wr.drew) ((Below.refl _ _).drew)).put (id := l.getD k 0) ⟨by omega, by have := HG.out.mx; omega⟩ (by have := HT8.out; have := HT.out; unfold maxLen; omega) (.int .i64 (rk.getD (l.getD k 0).toNat 0))
      rw [mapF_snoc, ← hE] at hput
      generalize l.getD k 0 = v at *
      obtain ⟨u, rfl⟩ : ∃ u : Nat, v = u := ⟨v.toNat, by omega⟩
      rw [Int.toNat_natCast] at x2 hput
      generalize rk.getD u 0 = y at *
      obtain ⟨X', hr', hm', ht'⟩ := hput
      have HN := hid (show InI W bm rk l (k + 1) X' from by
        have hb := turned_below ht' (base := bm) (Nat.le_refl _) (Nat.le_of_lt HR.out.map.lt)
        have hb2 : Below bm wr X' := (Below.refl _ _).drew.trans hb
        refine ⟨hm', ?_, HR.out.bel.trans (by rw [HBM.out]; exact hb2)⟩
        have hg := ht'.grown.block (bm + 1) (cell_lt HR.out.box) (by simp)
        rw [← HR.out.box]
        rw [World.cell?, World.cell?, hg]
        rfl)
      clear xr hE hm' ht' HR
      go_wp2_with (fail)
      go_region_law (fail)
      all_goals
        go_wp2_with (fail)
        rw [hwk]
        exact ⟨⟨k + 1, hlt, rfl, HN⟩, by simp only [intOf]; exact meas hlt⟩
    · have hge : ¬ (k : Int) < t := by omega
      have hkt' : k = t := by omega
      have HR' := hid (show InI W bm rk l t wr from hkt' ▸ HR.out)
      have xp := HR.out.box
      have C39 := hid (fun (w : World) => callsIn_wide.1 (AnyZI.keys_in Try.keysA Fence.wide 5 trivial rfl (some bm) w))
      change Hid (∀ w, Calls Try.prog 39 _ _ _) at C39
      clear HR hkt'
      go_wp2_with (fail)
      go_at_call 39
      refine (C39.out wr).mono ?_
      rintro e w1 ⟨rfl, hw1⟩
      have hb1 := below_box wr (.cells #[.map (some bm)] 63)
      have C38 := hid (HSO.out w1 (bm + 1) wr.heap.size bm t (by rw [hw1]; exact (hb1.cell (p := ⟨bm + 1, 0, none⟩) (cell_lt xp)).trans xp) (by rw [hw1]; exact row_cell (heap_alloc_new wr _) 0)
        (by rw [hw1]
            have := HR'.out.map.below hb1
            rw [List.take_of_length_le (by rw [HT.out]; exact Nat.le_refl _)] at this
            exact this) (by have := HT8.out; have := HT.out; omega))
      have HB := hid (show Below W.heap.size W w1 from by rw [hw1]; exact HR'.out.bel.trans (hb1.mono HR'.out.bel.size))
      clear hw1 hb1 xp
      go_wp2_with (fail)
      go_at_call 38
      refine C38.out.mono ?_
      rintro e w2 ⟨o, c2, rfl, ho, hb2⟩
      have HO := hid (show OrdOut W (Qp.gone l L) (.returned (.slice o (Qp.gone l L).length c2)) w2 from ⟨o, c2, rfl, own_base ho HB.out.size, HB.out.trans (hb2.mono HB.out.size)⟩)
      generalize (Qp.gone l L).length = z at *
      clear ho hb2
      go_wp2
      go_ret
      exact HO.out
end Go.Proofs.Ytjnifadfcnpdoaa
