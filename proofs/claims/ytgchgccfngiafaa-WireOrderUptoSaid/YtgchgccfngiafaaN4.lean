/- The statement WireOrder, walked. -/
import Derived.Test.YtgchgccfngiafaaN3
namespace Go.Proofs.Ytgchgccfngiafaa
open Go.RowKit
set_option maxRecDepth 100000 in
set_option maxHeartbeats 8000000 in
theorem WireOrder_walk (xn yn xf yf : Nat) (xi yi xc yc : Int) (xs ys : ByteArray) (p q : List UInt8) (P Q : Option Addr) (cp cq : Nat) (w : World)
    (hxn : xn < 2 ^ 64) (hyn : yn < 2 ^ 64) (hxi : fits xi) (hyi : fits yi) (hxf : xf < 18446744073709551616) (hyf : yf < 18446744073709551616)
    (hP : At w P p) (hQ : At w Q q) (zP : P = none → cp = 0) (zQ : Q = none → cq = 0) (bp : p.length ≤ 4194304) (bq : q.length ≤ 4194304) (bx : xs.size ≤ 4194304) (by' : ys.size ≤ 4194304) :
    Calls Try.prog 6 #[.agg #[.int .u64 xn, .int .i64 xi, .float .f64 xf, .string xs, .int .u8 xc], .agg #[.int .u64 yn, .int .i64 yi, .float .f64 yf, .string ys, .int .u8 yc], .agg #[.slice P p.length cp, .slice Q q.length cq]] w
      fun e w' => e = .returned (.bool true) ∧ Below w.heap.size w w' := by
  have hmf : ∀ (fn : Fn) (first cap : Array Value) (w : World), (Instr.makeFunc fn first cap).run Try.prog w = .ok (.func fn first cap) w := fun _ _ _ _ => rfl
  have CX := Lib.hid (fun w => Canon_any xf w hxf)
  have CY := Lib.hid (fun w => Canon_any yf w hyf)
  have CX' := Lib.hid (fun w => (Canon_any xf w hxf).mono fun _ _ => bel)
  have CY' := Lib.hid (fun w => (Canon_any yf w hyf).mono fun _ _ => bel)
  have FX := Lib.hid (fun w => FloatO xf w hxf)
  have FY := Lib.hid (fun w => FloatO yf w hyf)
  have FF := Lib.hid (fun w => (Floats_any (canonF xf) (canonF yf) w (canon_lt xf hxf) (canon_lt yf hyf)).mono fun _ _ => bel)
  have NX := Lib.hid (fun w => NumO xn w hxn)
  have NY := Lib.hid (fun w => NumO yn w hyn)
  have NN := Lib.hid (fun w => (cmpU_any xn yn w).mono fun _ _ => bel)
  have IX := Lib.hid (fun w => IntO xi w hxi)
  have IY := Lib.hid (fun w => IntO yi w hyi)
  have II := Lib.hid (fun w => (cmpI_any xi yi w).mono fun _ _ => bel)
  have TX := Lib.hid (fun w => TextO xs w bx)
  have TY := Lib.hid (fun w => TextO ys w by')
  have TT := Lib.hid (fun w => (sCompare_any xs ys w).mono fun _ _ => bel)
  have OO := Lib.hid (fun (W : Int) (a b : List UInt8) (A B : Option Addr) (ca cb : Nat) (wc : World) PA QA (hA : At wc A a) (hB : At wc B b) (zA : A = none → ca = 0) (zB : B = none → cb = 0) (T : Bx w wc #[.int .u64 xn, .int .i64 xi, .float .f64 xf, .string xs, .int .u8 xc] #[.int .u64 yn, .int .i64 yi, .float .f64 yf, .string ys, .int .u8 yc] PA QA (.slice P p.length cp) (.slice Q q.length cq)) (hs : Stands W a b)
    (m1 : a.length ≤ 70000000000000) (m2 : b.length ≤ 70000000000000) =>
    orderW_any a b p q A B P Q ca cb cp cq PA QA W wc hA hB (hP.below T.1) (hQ.below T.1) zA zB zP zQ T.2.2.1 T.2.2.2.1 T.2.2.2.2.2.2.1 T.2.2.2.2.2.2.2 hs (by omega) (by omega))
  have SN := Lib.hid (stands_num xn yn hxn hyn)
  have SI := Lib.hid (stands_int xi yi hxi hyi)
  have SF := Lib.hid (stands_float xf yf hxf hyf)
  have ST := Lib.hid (stands_text xs.data.toList ys.data.toList)
  have LNX := Lib.hid (show (encNum xn).length ≤ 70000000000000 by have := len_num xn hxn; omega)
  have LNY := Lib.hid (show (encNum yn).length ≤ 70000000000000 by have := len_num yn hyn; omega)
  have LIX := Lib.hid (show (encInt xi).length ≤ 70000000000000 by have := len_int xi hxi; omega)
  have LIY := Lib.hid (show (encInt yi).length ≤ 70000000000000 by have := len_int yi hyi; omega)
  have LFX := Lib.hid (show (encFloat (canonF xf)).length ≤ 70000000000000 by simp [encFloat, digs_length])
  have LFY := Lib.hid (show (encFloat (canonF yf)).length ≤ 70000000000000 by simp [encFloat, digs_length])
  have LTX := Lib.hid (show (encText xs.data.toList).length ≤ 70000000000000 by have := len_text xs; omega)
  have LTY := Lib.hid (show (encText ys.data.toList).length ≤ 70000000000000 by have := len_text ys; omega)
  clear hxn hyn hxi hyi hxf hyf hP hQ zP zQ bp bq bx by'
  generalize canonF xf = kx at *
  generalize canonF yf = ky at *
  go_enter Try.func6, Try.ntmps6
  go_upto_region 1 with (fail)
  go_cut [7, 8] (fun t u w' => ∃ PA QA, t = .pointer (some ⟨PA, 0, none⟩) ∧ u = .pointer (some ⟨QA, 0, none⟩) ∧ Bx w w' #[.int .u64 xn, .int .i64 xi, .float .f64 xf, .string xs, .int .u8 xc] #[.int .u64 yn, .int .i64 yi, .float .f64 yf, .string ys, .int .u8 yc] PA QA (.slice P p.length cp) (.slice Q q.length cq))
  case first => as_aux_lemma =>
    obtain ⟨hX, hY, hZ⟩ := boxes2 w #[.int .u64 xn, .int .i64 xi, .float .f64 xf, .string xs, .int .u8 xc] #[.int .u64 yn, .int .i64 yi, .float .f64 yf, .string ys, .int .u8 yc] #[.slice P p.length cp, .slice Q q.length cq] 26 26 78
    have z0 := hZ 0
    have z1 := hZ 1
    clear hX hY hZ
    go_region
    all_goals (go_wp2; go_meet; (first | exact ⟨_, _, rfl, rfl, Bx.start _ _ _ _ _ _ _ _ _ _⟩ | exact ⟨_, _, rfl, rfl, (Bx.start _ _ _ _ _ _ _ _ _ _).swap⟩))
  case rest => as_aux_lemma =>
    obtain ⟨PA, QA, rfl, rfl, hbx⟩ := hcut
    have T := Lib.hid hbx
    obtain ⟨_, _, _, _, hx, hy, _, _⟩ := hbx
    have x2 := hx 2
    clear hx hy
    go_upto_region 3 with (fail)
    go_wp2_with fail
    refine (CX.out _).mono ?_
    rintro e w0 ⟨rfl, rfl⟩
    go_wp2_with fail
    refine (FX.out _).mono ?_
    rintro e w1 ⟨c1, rfl, h1, hb⟩
    clear x2
    replace T := Lib.hid (T.out.step hb)
    have AX := Lib.hid h1
    clear h1 hb
    have y2 := T.out.2.2.2.2.2.1 2
    go_wp2_with fail
    refine (CY.out _).mono ?_
    rintro e w0 ⟨rfl, rfl⟩
    go_wp2_with fail
    refine (FY.out _).mono ?_
    rintro e w2 ⟨c2, rfl, h2, hb⟩
    clear y2
    replace T := Lib.hid (T.out.step hb)
    replace AX := Lib.hid (AX.out.below hb)
    have AY := Lib.hid h2
    clear h2 hb CX CY FX FY
    go_upto_region 5 with (fail)
    have K0 := Lib.hid (fun w' (hb : Below w2.heap.size w2 w') => (⟨hb, (T.out.step hb).2.2.2.2.1 0, (T.out.step hb).2.2.2.2.1 1, (T.out.step hb).2.2.2.2.1 2, (T.out.step hb).2.2.2.2.1 3, (T.out.step hb).2.2.2.2.2.1 0, (T.out.step hb).2.2.2.2.2.1 1, (T.out.step hb).2.2.2.2.2.1 2, (T.out.step hb).2.2.2.2.2.1 3⟩ : Below w2.heap.size w2 w' ∧ w'.cell? ⟨w.heap.size, 0, none⟩ = some (.int .u64 xn) ∧ w'.cell? ⟨w.heap.size, 1, none⟩ = some (.int .i64 xi) ∧ w'.cell? ⟨w.heap.size, 2, none⟩ = some (.float .f64 xf) ∧ w'.cell? ⟨w.heap.size, 3, none⟩ = some (.string xs) ∧ w'.cell? ⟨w.heap.size + 1, 0, none⟩ = some (.int .u64 yn) ∧ w'.cell? ⟨w.heap.size + 1, 1, none⟩ = some (.int .i64 yi) ∧ w'.cell? ⟨w.heap.size + 1, 2, none⟩ = some (.float .f64 yf) ∧ w'.cell? ⟨w.heap.size + 1, 3, none⟩ = some (.string ys)))
    have AW := Lib.hid awake_any
    go_region_held3 (fun w' => Below w2.heap.size w2 w' ∧ w'.cell? ⟨w.heap.size, 0, none⟩ = some (.int .u64 xn) ∧ w'.cell? ⟨w.heap.size, 1, none⟩ = some (.int .i64 xi) ∧ w'.cell? ⟨w.heap.size, 2, none⟩ = some (.float .f64 xf) ∧ w'.cell? ⟨w.heap.size, 3, none⟩ = some (.string xs) ∧ w'.cell? ⟨w.heap.size + 1, 0, none⟩ = some (.int .u64 yn) ∧ w'.cell? ⟨w.heap.size + 1, 1, none⟩ = some (.int .i64 yi) ∧ w'.cell? ⟨w.heap.size + 1, 2, none⟩ = some (.float .f64 yf) ∧ w'.cell? ⟨w.heap.size + 1, 3, none⟩ = some (.string ys)) (first | exact K0.out _ (by assumption) | (go_split_ands; exact K0.out _ (by assumption)) | exact K0.out _ (Below.drew (Below.refl _ _)) | fail) (first | (go_at_call 20; (go_split_ands; (with_reducible refine (AW.out _).mono ?_); rintro e v1 ⟨rfl, hb⟩; have hB1 := ch1 (w0 := w2) (by assumption) hb; clear hb)) | (go_at_call 12; (go_split_ands; (with_reducible refine (NX.out _).mono ?_); rintro e v1 ⟨c3, rfl, hNX, hb⟩; have hB1 := ch1 (w0 := w2) (by assumption) hb; clear hb)) | (go_at_call 12; (go_split_ands; (with_reducible refine (NY.out _).mono ?_); rintro e v1 ⟨c4, rfl, hNY, hb⟩; replace hNX := At.below hNX hb; have hB1 := ch1 (w0 := w2) (by assumption) hb; clear hb)) | (go_at_call 40; (go_split_ands; (with_reducible refine (NN.out _).mono ?_); rintro e v1 ⟨rfl, hb⟩; replace hNX := At.below hNX hb; replace hNY := At.below hNY hb; have hB1 := ch1 (w0 := w2) (by assumption) hb; clear hb)) | (go_at_call 37; (go_split_ands; (with_reducible refine (OO.out _ _ _ _ _ _ _ _ PA QA hNX hNY (fun h => by cases h) (fun h => by cases h) (T.out.step (by assumption)) SN.out LNX.out LNY.out).mono ?_); rintro e v1 ⟨rfl, hb⟩; clear hNX hNY; have hB1 := ch1 (w0 := w2) (by assumption) hb; clear hb)) | (go_at_call 13; (go_split_ands; (with_reducible refine (IX.out _).mono ?_); rintro e v1 ⟨c3, rfl, hIX, hb⟩; have hB1 := ch1 (w0 := w2) (by assumption) hb; clear hb)) | (go_at_call 13; (go_split_ands; (with_reducible refine (IY.out _).mono ?_); rintro e v1 ⟨c4, rfl, hIY, hb⟩; replace hIX := At.below hIX hb; have hB1 := ch1 (w0 := w2) (by assumption) hb; clear hb)) | (go_at_call 41; (go_split_ands; (with_reducible refine (II.out _).mono ?_); rintro e v1 ⟨rfl, hb⟩; replace hIX := At.below hIX hb; replace hIY := At.below hIY hb; have hB1 := ch1 (w0 := w2) (by assumption) hb; clear hb)) | (go_at_call 37; (go_split_ands; (with_reducible refine (OO.out _ _ _ _ _ _ _ _ PA QA hIX hIY (fun h => by cases h) (fun h => by cases h) (T.out.step (by assumption)) SI.out LIX.out LIY.out).mono ?_); rintro e v1 ⟨rfl, hb⟩; clear hIX hIY; have hB1 := ch1 (w0 := w2) (by assumption) hb; clear hb)) | (go_at_call 39; (go_split_ands; (with_reducible refine (CX'.out _).mono ?_); rintro e v1 ⟨rfl, hb⟩; have hB1 := ch1 (w0 := w2) (by assumption) hb; clear hb)) | (go_at_call 39; (go_split_ands; (with_reducible refine (CY'.out _).mono ?_); rintro e v1 ⟨rfl, hb⟩; have hB1 := ch1 (w0 := w2) (by assumption) hb; clear hb)) | (go_at_call 42; (go_split_ands; (with_reducible refine (FF.out _).mono ?_); rintro e v1 ⟨rfl, hb⟩; have hB1 := ch1 (w0 := w2) (by assumption) hb; clear hb)) | (go_at_call 37; (go_split_ands; (with_reducible refine (OO.out _ _ _ _ _ _ _ _ PA QA (AX.out.below (by assumption)) (AY.out.below (by assumption)) (fun h => by cases h) (fun h => by cases h) (T.out.step (by assumption)) SF.out LFX.out LFY.out).mono ?_); rintro e v1 ⟨rfl, hb⟩; clear SF; have hB1 := ch1 (w0 := w2) (by assumption) hb; clear hb)) | (go_at_call 14; (go_split_ands; (with_reducible refine (TX.out _).mono ?_); rintro e v1 ⟨c3, rfl, hTX, hb⟩; have hB1 := ch1 (w0 := w2) (by assumption) hb; clear hb)) | (go_at_call 14; (go_split_ands; (with_reducible refine (TY.out _).mono ?_); rintro e v1 ⟨c4, rfl, hTY, hb⟩; replace hTX := At.below hTX hb; have hB1 := ch1 (w0 := w2) (by assumption) hb; clear hb)) | (go_at_call 43; (go_split_ands; (with_reducible refine (TT.out _).mono ?_); rintro e v1 ⟨rfl, hb⟩; replace hTX := At.below hTX hb; replace hTY := At.below hTY hb; have hB1 := ch1 (w0 := w2) (by assumption) hb; clear hb)) | (go_at_call 37; (go_split_ands; (with_reducible refine (OO.out _ _ _ _ _ _ _ _ PA QA hTX hTY (fun h => by cases h) (fun h => by cases h) (T.out.step (by assumption)) ST.out LTX.out LTY.out).mono ?_); rintro e v1 ⟨rfl, hb⟩; clear hTX hTY; have hB1 := ch1 (w0 := w2) (by assumption) hb; clear hb)) | fail)
    all_goals (go_split_ands; go_wp2; go_ret; exact ⟨rfl, ch1 T.out.1 (by assumption)⟩)
end Go.Proofs.Ytgchgccfngiafaa
